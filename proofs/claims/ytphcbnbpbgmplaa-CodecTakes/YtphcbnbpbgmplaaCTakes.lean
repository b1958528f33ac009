/- The walk of the law CodecTakes: any bytes, taken as any things: the call returns true, and nothing that was there has turned. -/
import Derived.Test.YtphcbnbpbgmplaaCLawTake
import Derived.Test.YtphcbnbpbgmplaaCCut
import Derived.Test.YtphcbnbpbgmplaaCOut2
import Derived.Deep.SlicePairs
import Derived.OpenShut
import Derived.Deep.QuietTactic
import Derived.Deep.CutRange
import Derived.BigQuiet
namespace Go.Proofs.Ytphcbnbpbgmplaa
open Go.RowKit Go.ChangeShapes Go.WideShapes
set_option linter.unusedVariables false

/- What the walk is told of the things to be taken. -/
def Takes (w : World) (a : Option Addr) (len : Nat) : Prop :=
  ∀ i, i < len → ∃ b off k n, a = some ⟨b, off, none⟩ ∧ b < w.heap.size ∧ w.cell? ⟨b, off + i * 2, none⟩ = some (.int .i64 k) ∧ w.cell? ⟨b, off + i * 2 + 1, none⟩ = some (.int .i64 n) ∧ -9223372036854775808 ≤ n ∧ n ≤ 9223372036854775807

theorem wf_i64 {n : Int} (h : (Lit.int .i64 n).wf = true) : -9223372036854775808 ≤ n ∧ n ≤ 9223372036854775807 := by
  simpa [Lit.wf, IntKind.min, IntKind.bits, IntKind.signed] using h

theorem takes_open {H : Type} {enc : TypeId × Value → H} {W : World} {base b0 : Nat} {spare : Nat → Bool} {held : Bool} {r : Reach} {v : Value} {d : DataW H} {p : List MemPlace}
    (hv : Value.okWide Try.prog W r b0 41 v) (hd : DataW.Trod enc Try.prog W base spare held 41 v d p) :
    ∃ a len cap, v = .slice a len cap ∧ len ≤ maxLen ∧ Takes W a len := by
  obtain ⟨a, len, cap, rfl⟩ := okWide_slice Try.underlying41 hv
  obtain ⟨fuel, hf⟩ := hd
  refine ⟨a, len, cap, rfl, ?_⟩
  rcases Go.Deep.open_slice_pairs Try.underlying41 Try.underlying49 (by kernel_rfl) rfl rfl (by kernel_rfl) (by kernel_rfl) hf with ⟨hc, hx⟩ | ⟨x, l2, c2, m, k, V0, V1, D0, D1, P0, P1, hc, _, hl, hm, hmm, hx, hall⟩
  · simp [Value.cells] at hc
    obtain ⟨rfl, rfl, rfl⟩ := hc
    exact ⟨by simp [maxLen], fun i hi => by omega⟩
  · simp [Value.cells] at hc
    obtain ⟨rfl, rfl, rfl⟩ := hc
    refine ⟨by omega, fun i hi => ?_⟩
    have him : i < m := by rw [hmm]; split <;> omega
    obtain ⟨h0, h1, t0, t1⟩ := hall i him
    obtain ⟨k0, e0, _, w0⟩ := DataW.trod_int Try.underlying3 t0
    obtain ⟨n0, e1, _, w1⟩ := DataW.trod_int Try.underlying3 t1
    simp only [List.cons.injEq, and_true] at e0 e1
    rw [e0] at h0
    rw [e1] at h1
    obtain ⟨b, off, spot⟩ := x
    have hspot : spot = none := by
      rcases Nat.lt_or_ge 0 i with hi0 | hi0
      · obtain ⟨z0, _, _, _⟩ := hall 0 (by omega)
        simpa [Addr.add] using World.cell?_spot z0
      · have : i = 0 := by omega
        subst this
        simpa [Addr.add] using World.cell?_spot h0
    subst hspot
    rw [plain_add] at h0 h1
    refine ⟨b, off, k0, n0, rfl, cell_lt h0, h0, by rw [Nat.add_assoc]; exact h1, ?_⟩
    exact wf_i64 w1

/- The state of the round: the In, the box of the reference's. -/
structure LS (w0 wr : World) (b xb : Nat) (s t : Codec.St) : Prop where
  inat : InAt wr b s
  x0 : wr.cell? ⟨xb, 0, none⟩ = some (.string (S t.1))
  x1 : wr.cell? ⟨xb, 1, none⟩ = some (.int .i64 t.2)
  f0 : wr.frozen? ⟨xb, 0, none⟩ = false
  f1 : wr.frozen? ⟨xb, 1, none⟩ = false
  ne : b < xb
  lt : xb < wr.heap.size
  below : Below w0.heap.size w0 wr
  b0 : w0.heap.size ≤ b
theorem InAt.drew {w : World} {b : Nat} {s : Codec.St} (h : InAt w b s) : InAt w.drew b s := ⟨h.lt, h.c0, h.c1, h.f0, h.f1, h.len⟩
theorem InAt.drewN {w : World} {b : Nat} {s : Codec.St} (h : InAt w b s) (n : Nat) : InAt (w.drewN n) b s := ⟨h.lt, h.c0, h.c1, h.f0, h.f1, h.len⟩
theorem LS.drew {w0 wr : World} {b xb : Nat} {s t : Codec.St} (h : LS w0 wr b xb s t) : LS w0 wr.drew b xb s t := ⟨h.inat.drew, h.x0, h.x1, h.f0, h.f1, h.ne, h.lt, h.below.drew, h.b0⟩
theorem LS.drewN {w0 wr : World} {b xb : Nat} {s t : Codec.St} (h : LS w0 wr b xb s t) (n : Nat) : LS w0 (wr.drewN n) b xb s t := ⟨h.inat.drewN n, h.x0, h.x1, h.f0, h.f1, h.ne, h.lt, below_drewN h.below n, h.b0⟩
theorem LS.call {w0 wr w2 : World} {b xb : Nat} {s s' t : Codec.St} (h : LS w0 wr b xb s t) (hin : InAt w2 b s') (hb : But b wr.heap.size wr w2) : LS w0 w2 b xb s' t := by
  have hl := h.lt
  have hn := h.ne
  have hs := hb.size
  refine ⟨hin, ?_, ?_, ?_, ?_, h.ne, by omega, h.below.trans (hb.below h.b0 h.below.size), h.b0⟩
  · rw [hb.cell (p := ⟨xb, 0, none⟩) (by simpa using hl) (by simp; omega)]; exact h.x0
  · rw [hb.cell (p := ⟨xb, 1, none⟩) (by simpa using hl) (by simp; omega)]; exact h.x1
  · rw [hb.frozen (p := ⟨xb, 0, none⟩) (by simpa using hl) (by simp; omega)]; exact h.f0
  · rw [hb.frozen (p := ⟨xb, 1, none⟩) (by simpa using hl) (by simp; omega)]; exact h.f1
theorem LS.quiet {w0 wr w2 : World} {b xb : Nat} {s t : Codec.St} (h : LS w0 wr b xb s t) (hb : Below wr.heap.size wr w2) : LS w0 w2 b xb s t := h.call (h.inat.later hb) (But.of_below hb)
theorem LS.set {w0 wr : World} {b xb : Nat} {s t : Codec.St} (h : LS w0 wr b xb s t) {p : Addr} (h1 : p.block ≠ b) (h2 : p.block ≠ xb) (h3 : w0.heap.size ≤ p.block) (x : Value) : LS w0 (wr.setCell p x) b xb s t := by
  have ne : ∀ o, p ≠ ⟨xb, o, none⟩ := by intro o e; rw [e] at h2; exact h2 rfl
  refine ⟨h.inat.setOther h1 x, ?_, ?_, ?_, ?_, h.ne, by simpa using h.lt, h.below.setCell h3 x, h.b0⟩
  · rw [World.cell?_setCell_other _ _ _ _ (ne _)]; exact h.x0
  · rw [World.cell?_setCell_other _ _ _ _ (ne _)]; exact h.x1
  · rw [World.frozen?_setCell]; exact h.f0
  · rw [World.frozen?_setCell]; exact h.f1
theorem y_box {wr w2 : World} {b : Nat} {z0 z1 : Value} {t : TypeId} (hb : But b (wr.alloc (Obj.cells #[z0, z1] t)).drew.heap.size (wr.alloc (Obj.cells #[z0, z1] t)).drew w2) (hlt : b < wr.heap.size) :
    w2.cell? ⟨wr.heap.size, 0, none⟩ = some z0 ∧ w2.cell? ⟨wr.heap.size, 1, none⟩ = some z1 ∧ w2.frozen? ⟨wr.heap.size, 0, none⟩ = false ∧ w2.frozen? ⟨wr.heap.size, 1, none⟩ = false ∧ wr.heap.size < w2.heap.size := by
  have hs : (wr.alloc (Obj.cells #[z0, z1] t)).drew.heap.size = wr.heap.size + 1 := by simp
  have n1 := new_two wr z0 z1 t
  have hz := hb.size
  rw [hs] at hb hz
  refine ⟨?_, ?_, ?_, ?_, by omega⟩
  · rw [hb.cell (p := ⟨wr.heap.size, 0, none⟩) (by simp) (by simp; omega)]; exact n1.1
  · rw [hb.cell (p := ⟨wr.heap.size, 1, none⟩) (by simp) (by simp; omega)]; exact n1.2.1
  · rw [hb.frozen (p := ⟨wr.heap.size, 0, none⟩) (by simp) (by simp; omega)]; exact n1.2.2.1
  · rw [hb.frozen (p := ⟨wr.heap.size, 1, none⟩) (by simp) (by simp; omega)]; exact n1.2.2.2
theorem put_two {w : World} {g : Nat} {z0 z1 : Value} (h0 : w.cell? ⟨g, 0, none⟩ = some z0) (h1 : w.cell? ⟨g, 1, none⟩ = some z1) (x y : Value) :
    ((w.setCell ⟨g, 0, none⟩ x).setCell ⟨g, 1, none⟩ y).cell? ⟨g, 0, none⟩ = some x ∧ ((w.setCell ⟨g, 0, none⟩ x).setCell ⟨g, 1, none⟩ y).cell? ⟨g, 1, none⟩ = some y := by
  constructor
  · rw [World.cell?_setCell_other _ _ _ _ (by simp), World.cell?_setCell_same _ _ _ h0]
  · have k1 : (w.setCell ⟨g, 0, none⟩ x).cell? ⟨g, 1, none⟩ = some z1 := by rw [World.cell?_setCell_other _ _ _ _ (by simp)]; exact h1
    rw [World.cell?_setCell_same _ _ _ k1]
theorem LS.alloc {w0 wr : World} {b xb : Nat} {s t : Codec.St} (h : LS w0 wr b xb s t) (o : Obj) : LS w0 (wr.alloc o) b xb s t := h.quiet ((Below.refl _ _).alloc (Nat.le_refl _) o)
theorem LS.put {w0 wr : World} {b xb : Nat} {s t : Codec.St} (h : LS w0 wr b xb s t) (t' : Codec.St) : LS w0 ((wr.setCell ⟨xb, 0, none⟩ (.string (S t'.1))).setCell ⟨xb, 1, none⟩ (.int .i64 t'.2)) b xb s t' := by
  have hn := h.ne
  have hb0 := h.b0
  refine ⟨(h.inat.setOther (p := ⟨xb, 0, none⟩) (by simp; omega) _).setOther (p := ⟨xb, 1, none⟩) (by simp; omega) _, ?_, ?_, ?_, ?_, h.ne, by simpa using h.lt, (h.below.setCell (p := ⟨xb, 0, none⟩) (by simp; omega) _).setCell (p := ⟨xb, 1, none⟩) (by simp; omega) _, h.b0⟩
  · rw [World.cell?_setCell_other _ _ _ _ (by simp), World.cell?_setCell_same _ _ _ h.x0]
  · have k1 : (wr.setCell ⟨xb, 0, none⟩ (.string (S t'.1))).cell? ⟨xb, 1, none⟩ = some (.int .i64 t.2) := by rw [World.cell?_setCell_other _ _ _ _ (by simp)]; exact h.x1
    rw [World.cell?_setCell_same _ _ _ k1]
  · rw [World.frozen?_setCell, World.frozen?_setCell]; exact h.f0
  · rw [World.frozen?_setCell, World.frozen?_setCell]; exact h.f1

set_option maxHeartbeats 1600000 in
theorem codecTakes_walk {H : Type} {enc : TypeId × Value → H} {base b0 : Nat} {spare : Nat → Bool} {held : Bool} {r : Reach} {v : Value} {d : DataW H} {p : List MemPlace}
    (a0 : ByteArray) (w0 : a0.size ≤ maxLen) (w : World) (hv : Value.okWide Try.prog w r b0 41 v) (hd : DataW.Trod enc Try.prog w base spare held 41 v d p) :
    Calls Try.prog 8 #[.string a0, v] w fun e w' => e = .returned (.bool true) ∧ Below w.heap.size w w' := by
  obtain ⟨a, len, cap, rfl, hlen, htakes⟩ := takes_open hv hd
  clear hv hd
  have HTK := hide htakes
  have hcut := hide (cut_any a0 120 w w0)
  have hl12 : (a0.data.toList.take 120).length ≤ 120 := by simp; omega
  clear w0 htakes
  generalize a0.data.toList.take 120 = l at *
  have HRD := hide (read_any l w (by omega))
  unfold maxLen at hlen
  go_enter Try.func8, Try.ntmps8
  go_wp2_with fail
  refine (unhide hcut).mono ?_
  rintro e w' ⟨rfl, rfl⟩
  clear hcut
  go_wp2_with fail
  refine (unhide HRD).mono ?_
  rintro e w1 ⟨rfl, hin1, hb1, hz1⟩
  clear HRD
  go_wp2_with fail
  refine (awake_any _).mono ?_
  rintro e w2 ⟨rfl, hb2⟩
  have hxs : (w1.alloc (Obj.cells #[.string (S l), .int .i64 0] 45)).heap.size = w1.heap.size + 1 := by simp
  have n1 := new_two w1 (.string (S l)) (.int .i64 0) 45
  have L1 : LS w' (w1.alloc (Obj.cells #[.string (S l), .int .i64 0] 45)) w'.heap.size w1.heap.size (l, 0) (l, 0) :=
    ⟨hin1.later ((Below.refl _ _).alloc (Nat.le_refl _) _), n1.1, n1.2.1, n1.2.2.1, n1.2.2.2, by omega, by omega, hb1.trans ((Below.refl _ _).alloc hb1.size _), Nat.le_refl _⟩
  have HL := hide (L1.quiet hb2)
  have hi0 : Hid (Inv (l, 0)) := fun h => absurd rfl h
  clear L1 hb2 n1 hxs hin1 hb1
  rw [hz1] at HL
  go_wp2_with fail
  go_loopw [7] (fun i wr => ∃ (k : Nat) (s : Codec.St), k ≤ 15 ∧ k ≤ len ∧ i = .int .i64 k ∧ Inv s ∧ LS w' wr w'.heap.size (w'.heap.size + 1) s s) (fun i _ => 15 - (intOf i).toNat)
  case atStart => exact ⟨0, (l, 0), by omega, by omega, rfl, unhide hi0, unhide HL⟩
  case round =>
    rename_i wr
    clear HL hi0
    obtain ⟨k, s, hk, hkl, rfl, hi, hls⟩ := hrel
    have HI := hide hi
    have HL := hide hls
    clear hi hls
    by_cases hgo : k < len ∧ k < 15
    · obtain ⟨g1, g2⟩ := hgo
      obtain ⟨tb, off, kd, n, ha, htb, hc0, hc1, hn1, hn2⟩ := unhide HTK k g1
      subst ha
      rw [← (unhide HL).below.cell (p := ⟨tb, off + k * 2, none⟩) htb] at hc0
      rw [← (unhide HL).below.cell (p := ⟨tb, off + k * 2 + 1, none⟩) htb] at hc1
      obtain ⟨x0, x1, f0, f1⟩ : wr.cell? ⟨w'.heap.size + 1, 0, none⟩ = some (.string (S s.1)) ∧ wr.cell? ⟨w'.heap.size + 1, 1, none⟩ = some (.int .i64 s.2) ∧ wr.frozen? ⟨w'.heap.size + 1, 0, none⟩ = false ∧ wr.frozen? ⟨w'.heap.size + 1, 1, none⟩ = false := ⟨(unhide HL).x0, (unhide HL).x1, (unhide HL).f0, (unhide HL).f1⟩
      obtain ⟨A0, A1⟩ : (∀ o, (wr.alloc o).cell? ⟨w'.heap.size + 1, 0, none⟩ = some (.string (S s.1))) ∧ (∀ o, (wr.alloc o).cell? ⟨w'.heap.size + 1, 1, none⟩ = some (.int .i64 s.2)) := ⟨fun o => ((unhide HL).alloc o).x0, fun o => ((unhide HL).alloc o).x1⟩
      obtain ⟨A2, A3⟩ : (∀ o, (wr.alloc o).cell? ⟨tb, off + k * 2, none⟩ = some (.int .i64 kd)) ∧ (∀ o, (wr.alloc o).cell? ⟨tb, off + k * 2 + 1, none⟩ = some (.int .i64 n)) :=
        ⟨fun o => (((Below.refl _ wr).alloc (Nat.le_refl _) o).cell (p := ⟨tb, off + k * 2, none⟩) (cell_lt hc0)).trans hc0, fun o => (((Below.refl _ wr).alloc (Nat.le_refl _) o).cell (p := ⟨tb, off + k * 2 + 1, none⟩) (cell_lt hc1)).trans hc1⟩
      have HC := hide (fun wx hx => ltake_any w'.heap.size s kd n wx hx (unhide HI) hn1 hn2)
      have HI2 := hide ((unhide HI).step kd n)
      clear HI
      generalize step kd n s = s' at *
      obtain ⟨sl, se⟩ := s
      obtain ⟨tl, te⟩ := s'
      unfold InV at HC
      have hxw := (unhide HL).lt
      have hbw : w'.heap.size < wr.heap.size := (unhide HL).inat.lt
      go_upto_region 9 with fail
      go_cut [8, 9] from 18 to 55 (fun y ok wx => ∃ yb : Nat, y = .pointer (some ⟨yb, 0, none⟩) ∧ ok = .bool true ∧ LS w' wx w'.heap.size (w'.heap.size + 1) (tl, te) (sl, se) ∧ wx.cell? ⟨yb, 0, none⟩ = some (.string (S tl)) ∧ wx.cell? ⟨yb, 1, none⟩ = some (.int .i64 te))
      case first =>
        go_region_with (go_at_call 21; refine (unhide HC _ ?_).mono ?_; (first | exact (unhide HL).drew.inat | exact ((unhide HL).alloc _).drew.inat); rintro e w2 ⟨rfl, hin, hbut⟩; (first | (have L2 := hide ((unhide HL).drew.call hin hbut); have HY := hide True.intro; clear hin hbut) | (have L2 := hide (((unhide HL).alloc _).drew.call hin hbut); have HY := hide (y_box hbut hbw); obtain ⟨y0, y1, y2, y3, y4⟩ := y_box hbut hbw; clear hin hbut)))
        all_goals go_wp2_with fail
        all_goals go_meet
        all_goals first
          | exact ⟨w2.heap.size, rfl, rfl, (unhide L2).alloc _, (new_two w2 _ _ _).1, (new_two w2 _ _ _).2.1⟩
          | exact ⟨wr.heap.size, rfl, rfl, ((unhide L2).set (p := ⟨wr.heap.size, 0, none⟩) (by simp; omega) (by simp; omega) (by simp; omega) _).set (p := ⟨wr.heap.size, 1, none⟩) (by simp; omega) (by simp; omega) (by simp; omega) _, (put_two (unhide HY).1 (unhide HY).2.1 _ _).1, (put_two (unhide HY).1 (unhide HY).2.1 _ _).2⟩
      case rest =>
        obtain ⟨yb, rfl, rfl, hls, hy0, hy1⟩ := hcut
        clear x0 x1 f0 f1 A0 A1 A2 A3 hc0 hc1 HC HL hbw hxw
        obtain ⟨x0, x1, f0, f1⟩ : wc.cell? ⟨w'.heap.size + 1, 0, none⟩ = some (.string (S sl)) ∧ wc.cell? ⟨w'.heap.size + 1, 1, none⟩ = some (.int .i64 se) ∧ wc.frozen? ⟨w'.heap.size + 1, 0, none⟩ = false ∧ wc.frozen? ⟨w'.heap.size + 1, 1, none⟩ = false := ⟨hls.x0, hls.x1, hls.f0, hls.f1⟩
        have L3 := hide (hls.put (tl, te))
        have HE := hide (fun m => err_any w'.heap.size (tl, te) _ ((unhide L3).inat.drewN m))
        have HLN := hide (fun m => len_any w'.heap.size (tl, te) _ ((unhide L3).inat.drewN m))
        have hst : (S tl).size = tl.length := S_size tl
        have htl : tl.length ≤ 1099511627776 := hls.inat.len
        clear hls
        simp only at L3 HE HLN
        go_wp2_with fail
        go_quiet (first | (go_at_call 22; exact Calls.quiet_of_same (unhide HE _)) | (go_at_call 23; exact Calls.quiet_of_same (unhide HLN _)))
        go_wp2
        exact ⟨⟨k + 1, (tl, te), by omega, by omega, by go_num, unhide HI2, (unhide L3).drewN _⟩, by simp [intOf]; omega⟩
    · have HEND := hide (fun wx hx => end_any w'.heap.size s wx hx)
      have HREND := hide (fun wx => rend_any s wx (unhide HI))
      obtain ⟨x0, x1⟩ : wr.cell? ⟨w'.heap.size + 1, 0, none⟩ = some (.string (S s.1)) ∧ wr.cell? ⟨w'.heap.size + 1, 1, none⟩ = some (.int .i64 s.2) := ⟨(unhide HL).x0, (unhide HL).x1⟩
      generalize Codec.endOf s = q at *
      obtain ⟨ql, qe⟩ := q
      obtain ⟨sl, se⟩ := s
      unfold InV at HREND
      simp only at HEND HREND x0 x1
      clear HTK HI
      have hd : (decide ((k : Int) < (len : Int)) && decide ((k : Int) < 15)) = false := by
        rw [Bool.and_eq_false_iff, decide_eq_false_iff_not, decide_eq_false_iff_not]; omega
      go_wp2_with fail
      all_goals go_region_with (first | (go_at_call 24; refine (unhide HEND _ ?_).mono ?_; (first | exact (unhide HL).drew.inat | exact ((unhide HL).drew.quiet hb3).inat); rintro e w4 ⟨rfl, hin, hbut⟩; (first | have L4 := hide ((unhide HL).drew.call hin hbut) | have L4 := hide (((unhide HL).drew.quiet hb3).call hin hbut)); obtain ⟨x40, x41⟩ : w4.cell? ⟨w'.heap.size + 1, 0, none⟩ = some (.string (S sl)) ∧ w4.cell? ⟨w'.heap.size + 1, 1, none⟩ = some (.int .i64 se) := ⟨(unhide L4).x0, (unhide L4).x1⟩) | (go_at_call 25; refine (unhide HREND _).mono ?_; rintro e w3 ⟨rfl, hb3⟩))
      all_goals go_wp2
      all_goals go_ret
      all_goals first
        | exact ⟨rfl, ((unhide L4).quiet hb3).below⟩
        | exact ⟨rfl, (unhide L4).below⟩
end Go.Proofs.Ytphcbnbpbgmplaa
