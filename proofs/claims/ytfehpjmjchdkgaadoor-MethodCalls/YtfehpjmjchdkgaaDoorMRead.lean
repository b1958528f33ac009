/- A call read of the front of bytes, an answer: the program's. -/
import Derived.Test.YtfehpjmjchdkgaaDoorMCheck
import Derived.Test.YtfehpjmjchdkgaaDoorMRes
import Derived.Test.YtfehpjmjchdkgaaDoorMBm
namespace Go.Proofs.YtfehpjmjchdkgaaDoor
open Go.RowKit
set_option linter.unusedVariables false
set_option maxRecDepth 100000

/- Behind takes of an In that was there, with a box of the call's own. -/
structure Mr (w : World) (b : Nat) (R : Obj) (st : Codec.St) (wr : World) : Prop where
  but : But b (w.heap.size + 1) (w.alloc R) wr
  inn : InAt wr b st
  bw : b < w.heap.size
section
variable {w wr w' : World} {b : Nat} {R : Obj} {st st' : Codec.St}
theorem Mr.start (h : InAt w b st) (hb : b < w.heap.size) : Mr w b R st (w.alloc R) := ⟨But.refl _ _ _, h.later (under_box _), hb⟩
theorem Mr.size (h : Mr w b R st wr) : w.heap.size + 1 ≤ wr.heap.size := by have := h.but.size; rwa [World.size_alloc] at this
theorem Mr.lt (h : Mr w b R st wr) : b < wr.heap.size := h.inn.lt
theorem Mr.step (h : Mr w b R st wr) (hb : But b wr.heap.size wr w') (hi : InAt w' b st') : Mr w b R st' w' := ⟨h.but.trans (hb.mono h.size), hi, h.bw⟩
theorem Mr.later (h : Mr w b R st wr) (hb : Below wr.heap.size wr w') : Mr w b R st w' := ⟨h.but.trans (But.of_below (hb.mono h.size)), h.inn.later hb, h.bw⟩
theorem Mr.res (h : Mr w b R st wr) : wr.heap[w.heap.size]? = some R := (h.but.block _ (by omega) (by have := h.bw; omega)).trans (heap_alloc_new w R)
theorem Mr.md (h : Mr w b R st wr) (hw : MD w) (hb : b ≠ 0) : MD wr := fun k hk => by
  have hp := hw.pos
  have e0 : wr.heap[0]? = w.heap[0]? := (h.but.block 0 (by omega) (by omega)).trans (Below.heap_alloc w R 0 hp)
  have e := fun o => World.cell?_of_block (w := w) (w' := wr) (a := ⟨0, o, none⟩) e0
  rw [e, e, e, e, e]
  exact hw k hk
theorem Mr.end (h : Mr w b R st wr) (ho : ∀ k, k ≠ w.heap.size → w'.heap[k]? = wr.heap[k]?) (hs : w'.heap.size = wr.heap.size) (h1 : w'.os = wr.os) (h2 : w'.tape = wr.tape) (h3 : w'.output = wr.output) : InAt w' b st ∧ But b w.heap.size w w' := by
  have hbw := h.bw
  refine ⟨h.inn.same (ho b (by omega)) (by omega), ⟨h1.trans h.but.os, h2.trans h.but.tape, h3.trans h.but.output, by have := h.size; omega, fun k hk hkb => ?_⟩⟩
  rw [ho k (by omega), h.but.block k (by omega) hkb]
  exact Below.heap_alloc w R k hk
theorem Mr.put3 (h : Mr w b R st wr) (x y z : Value) : InAt (put3 wr w.heap.size x y z) b st ∧ But b w.heap.size w (put3 wr w.heap.size x y z) := h.end (fun k hk => put3_other wr x y z hk) (put3_size wr x y z) rfl rfl rfl
theorem Mr.put4 (h : Mr w b R st wr) (x y z u : Value) : InAt (put4 wr w.heap.size x y z u) b st ∧ But b w.heap.size w (put4 wr w.heap.size x y z u) := h.end (fun k hk => put4_other wr x y z u hk) (put4_size wr x y z u) rfl rfl rfl
end

theorem most24 : 24 ≤ maxLen := by unfold maxLen; omega
theorem rcV_len (s : Codec.St) : (rcV s).a.length ≤ maxLen ∧ (rcV s).b.length ≤ maxLen := by
  obtain ⟨_, h1, h2, _⟩ := rc_most s
  rw [rcV]
  dsimp only
  generalize (rcA s).1 = x at *
  generalize (rcB s).1 = y at *
  exact ⟨Nat.le_trans h1 most24, Nat.le_trans h2 most24⟩
theorem rrV_len (s : Codec.St) : (rrV s).text.length ≤ maxLen := by
  obtain ⟨_, h1, _⟩ := rr_most s
  rw [rrV]
  dsimp only
  generalize (rrT s).1 = x at *
  exact Nat.le_trans h1 most24

set_option maxHeartbeats 12800000 in
theorem mread_any {w : World} (hw : MD w) {b : Nat} {s : Codec.St} (h : InAt w b s) (hb0 : b ≠ 0) (hbw : b < w.heap.size) :
    Calls Tryd.prog 16 #[.pointer (some ⟨b, 0, none⟩)] w fun e w' => e = .returned (mcV (rcC s)) ∧ InAt w' b (rcS s) ∧ But b w.heap.size w w' := by
  obtain ⟨R, hR⟩ : ∃ R : Obj, R = .cells #[.int .i64 0, .string ⟨#[]⟩, .string ⟨#[]⟩, .int .i64 0] 24 (0, 0) := ⟨_, rfl⟩
  have HR0 := hide (fun (w1 : World) (h1 : InAt w1 b s) => n_any b 17 _ w1 h1 (by decide) (by decide))
  have HR1 := hide (fun (w1 : World) (h1 : InAt w1 b (rcO s).2) => s_any b 24 _ w1 h1 (by decide) (by decide))
  have HR2 := hide (fun (w1 : World) (h1 : InAt w1 b (rcA s).2) => s_any b 24 _ w1 h1 (by decide) (by decide))
  have HR3 := hide (fun (w1 : World) (h1 : InAt w1 b (rcB s).2) => i_any b _ w1 h1)
  have HCK := hide (fun (w1 : World) (h1 : MD w1) => mcheck_any h1 (rcV s) (rcV_len s).1 (rcV_len s).2)
  have HFA := hide (fun (w1 : World) (h1 : InAt w1 b ((rcI s).2)) => fail_any b (rcV s).check _ w1 h1)
  have HER := hide (fun (w1 : World) (h1 : InAt w1 b (rcS s)) => err_any b _ w1 h1)
  have HCC : Hid (rcC s = if (rcS s).2 ≠ 0 then ⟨0, [], [], 0⟩ else rcV s) := by show _ = _; rw [rcC]
  have e0 : Codec.takeN 17 s = rcO s := by rw [rcO]
  have e1 : Codec.takeS 24 (rcO s).2 = rcA s := by rw [rcA]
  have e2 : Codec.takeS 24 (rcA s).2 = rcB s := by rw [rcB]
  have e3 : Codec.takeI (rcB s).2 = rcI s := by rw [rcI]
  have e4 : Codec.fail (rcV s).check (rcI s).2 = rcS s := by rw [rcS]
  have ev : mcV (rcV s) = .agg #[.int .i64 (((rcO s).1 : Nat) : Int), .string (S (rcA s).1), .string (S (rcB s).1), .int .i64 (rcI s).1] := by simp only [mcV, rcV]
  simp only [e0] at HR0
  simp only [e1] at HR1
  simp only [e2] at HR2
  simp only [e3] at HR3
  simp only [e4] at HFA
  rw [ev] at HCK
  have HVV := hide ev
  clear ev e0 e1 e2 e3 e4
  generalize (rcV s).check = ck at *
  generalize rcV s = V at *
  generalize rcC s = C at *
  generalize rcS s = SS at *
  generalize (rcO s).1 = v0 at *
  generalize (rcO s).2 = s0 at *
  generalize (rcA s).1 = v1 at *
  generalize (rcA s).2 = s1 at *
  generalize (rcB s).1 = v2 at *
  generalize (rcB s).2 = s2 at *
  generalize (rcI s).1 = v3 at *
  generalize (rcI s).2 = s3 at *
  have HM0 := hide (Mr.start (R := R) h hbw)
  have HMD := hide (fun (wx : World) (st : Codec.St) (hm : Mr w b R st wx) => hm.md hw hb0)
  clear hw h
  go_enter Tryd.func16, Tryd.ntmps16
  go_wp2_with fail
  rw [← hR]
  refine (unhide HR0 _ (unhide HM0).inn).mono ?_
  rintro e y0 ⟨rfl, hi0, hb0⟩
  have HM1 := hide ((unhide HM0).step hb0 hi0)
  clear hi0 hb0 HR0 HM0
  go_wp2_with fail
  refine (unhide HR1 _ (unhide HM1).inn).mono ?_
  rintro e y1 ⟨rfl, hi1, hb1⟩
  have HM2 := hide ((unhide HM1).step hb1 hi1)
  clear hi1 hb1 HR1 HM1
  go_wp2_with fail
  refine (unhide HR2 _ (unhide HM2).inn).mono ?_
  rintro e y2 ⟨rfl, hi2, hb2⟩
  have HM3 := hide ((unhide HM2).step hb2 hi2)
  clear hi2 hb2 HR2 HM2
  go_wp2_with fail
  refine (unhide HR3 _ (unhide HM3).inn).mono ?_
  rintro e y3 ⟨rfl, hi3, hb3⟩
  have HM4 := hide ((unhide HM3).step hb3 hi3)
  clear hi3 hb3 HR3 HM3
  go_wp2_with fail
  obtain ⟨X, hX⟩ : ∃ X : Obj, X = .cells #[.int .i64 ((v0 : Nat) : Int), .string (S v1), .string (S v2), .int .i64 v3] 24 (0, 0) := ⟨_, rfl⟩
  have HMX := hide ((unhide HM4).later (under_box X))
  have HXH : Hid ((y3.alloc X).heap[y3.heap.size]? = some X) := heap_alloc_new y3 X
  have HXZ : Hid (b < y3.heap.size) := (unhide HM4).lt
  rw [← hX]
  refine (unhide HCK _ (unhide HMD _ _ (unhide HMX))).mono ?_
  rintro e yc ⟨rfl, hbc⟩
  have HMC := hide ((unhide HMX).later hbc)
  have HXC := hide ((hbc.block _ (block_lt (unhide HXH))).trans (unhide HXH))
  clear hbc HMX HXH HCK HM4
  go_wp2_with fail
  refine (unhide HFA _ (unhide HMC).inn).mono ?_
  rintro e yf ⟨rfl, hif, hbf⟩
  have HMF := hide ((unhide HMC).step hbf hif)
  have HXF : Hid (yf.heap[y3.heap.size]? = some X) := (hbf.block _ (block_lt (unhide HXC)) (by have := unhide HXZ; omega)).trans (unhide HXC)
  clear hif hbf HMC HXC HFA
  go_wp2_with fail
  refine (unhide HER _ (unhide HMF).inn).mono ?_
  rintro e ye ⟨rfl, rfl⟩
  have hres := (unhide HMF).res
  rw [hR] at hres
  have hxx := unhide HXF
  rw [hX] at hxx
  obtain ⟨r0, r1, r2, r3⟩ := heap_cells4 hres
  obtain ⟨x0, x1, x2, x3⟩ := heap_cells4 hxx
  have rf := fun j => block_frozen hres j
  by_cases he : SS.2 = 0
  · have e0 : (SS.2 != 0) = false := by rw [he]; rfl
    have hC : C = V := by rw [unhide HCC, if_neg (by simpa using he)]
    have hz := put4_heap hres (.int .i64 ((v0 : Nat) : Int)) (.string (S v1)) (.string (S v2)) (.int .i64 v3)
    obtain ⟨z0, z1, z2, z3⟩ := heap_cells4 hz
    have HEND := hide ((unhide HMF).put4 (.int .i64 ((v0 : Nat) : Int)) (.string (S v1)) (.string (S v2)) (.int .i64 v3))
    have HC := hide hC
    unfold put4 at z0 z1 z2 z3 HEND
    clear he hz hres hxx hC HCC
    go_wp2_with fail
    exact bodyPost_ret (v := .agg #[.int .i64 ((v0 : Nat) : Int), .string (S v1), .string (S v2), .int .i64 v3]) (by simp [results, Tryd.results16, go_sem, z0, z1, z2, z3]) rfl ⟨by rw [unhide HC, unhide HVV], unhide HEND⟩
  · have e0 : (SS.2 != 0) = true := by rw [bne_iff_ne]; exact he
    have hC : C = ⟨0, [], [], 0⟩ := by rw [unhide HCC, if_pos he]
    have hz := put4_heap hres (.int .i64 0) (.string ⟨#[]⟩) (.string ⟨#[]⟩) (.int .i64 0)
    obtain ⟨z0, z1, z2, z3⟩ := heap_cells4 hz
    have HEND := hide ((unhide HMF).put4 (.int .i64 0) (.string ⟨#[]⟩) (.string ⟨#[]⟩) (.int .i64 0))
    have HC := hide hC
    unfold put4 at z0 z1 z2 z3 HEND
    clear he hz hres hxx hC HCC HVV
    go_wp2_with fail
    exact bodyPost_ret (v := .agg #[.int .i64 0, .string ⟨#[]⟩, .string ⟨#[]⟩, .int .i64 0]) (by simp [results, Tryd.results16, go_sem, z0, z1, z2, z3]) rfl ⟨by rw [unhide HC]; rfl, unhide HEND⟩
set_option maxHeartbeats 12800000 in
theorem mrread_any {w : World} (hw : MD w) {b : Nat} {s : Codec.St} (h : InAt w b s) (hb0 : b ≠ 0) (hbw : b < w.heap.size) :
    Calls Tryd.prog 22 #[.pointer (some ⟨b, 0, none⟩)] w fun e w' => e = .returned (mrV (rrR s)) ∧ InAt w' b (rrS s) ∧ But b w.heap.size w w' := by
  obtain ⟨R, hR⟩ : ∃ R : Obj, R = .cells #[.int .i64 0, .string ⟨#[]⟩, .int .i64 0] 46 (0, 0) := ⟨_, rfl⟩
  have HR0 := hide (fun (w1 : World) (h1 : InAt w1 b s) => n_any b 2 _ w1 h1 (by decide) (by decide))
  have HR1 := hide (fun (w1 : World) (h1 : InAt w1 b (rrO s).2) => s_any b 24 _ w1 h1 (by decide) (by decide))
  have HR2 := hide (fun (w1 : World) (h1 : InAt w1 b (rrT s).2) => i_any b _ w1 h1)
  have HCK := hide (fun (w1 : World) (h1 : MD w1) => mrcheck_any (w := w1) (rrV s) (rrV_len s))
  have HFA := hide (fun (w1 : World) (h1 : InAt w1 b ((rrI s).2)) => fail_any b (rrV s).check _ w1 h1)
  have HER := hide (fun (w1 : World) (h1 : InAt w1 b (rrS s)) => err_any b _ w1 h1)
  have HCC : Hid (rrR s = if (rrS s).2 ≠ 0 then ⟨0, [], 0⟩ else rrV s) := by show _ = _; rw [rrR]
  have e0 : Codec.takeN 2 s = rrO s := by rw [rrO]
  have e1 : Codec.takeS 24 (rrO s).2 = rrT s := by rw [rrT]
  have e2 : Codec.takeI (rrT s).2 = rrI s := by rw [rrI]
  have e3 : Codec.fail (rrV s).check (rrI s).2 = rrS s := by rw [rrS]
  have ev : mrV (rrV s) = .agg #[.int .i64 (((rrO s).1 : Nat) : Int), .string (S (rrT s).1), .int .i64 (rrI s).1] := by simp only [mrV, rrV]
  simp only [e0] at HR0
  simp only [e1] at HR1
  simp only [e2] at HR2
  simp only [e3] at HFA
  rw [ev] at HCK
  have HVV := hide ev
  clear ev e0 e1 e2 e3
  generalize (rrV s).check = ck at *
  generalize rrV s = V at *
  generalize rrR s = C at *
  generalize rrS s = SS at *
  generalize (rrO s).1 = v0 at *
  generalize (rrO s).2 = s0 at *
  generalize (rrT s).1 = v1 at *
  generalize (rrT s).2 = s1 at *
  generalize (rrI s).1 = v2 at *
  generalize (rrI s).2 = s2 at *
  have HM0 := hide (Mr.start (R := R) h hbw)
  have HMD := hide (fun (wx : World) (st : Codec.St) (hm : Mr w b R st wx) => hm.md hw hb0)
  clear hw h
  go_enter Tryd.func22, Tryd.ntmps22
  go_wp2_with fail
  rw [← hR]
  refine (unhide HR0 _ (unhide HM0).inn).mono ?_
  rintro e y0 ⟨rfl, hi0, hb0⟩
  have HM1 := hide ((unhide HM0).step hb0 hi0)
  clear hi0 hb0 HR0 HM0
  go_wp2_with fail
  refine (unhide HR1 _ (unhide HM1).inn).mono ?_
  rintro e y1 ⟨rfl, hi1, hb1⟩
  have HM2 := hide ((unhide HM1).step hb1 hi1)
  clear hi1 hb1 HR1 HM1
  go_wp2_with fail
  refine (unhide HR2 _ (unhide HM2).inn).mono ?_
  rintro e y2 ⟨rfl, hi2, hb2⟩
  have HM3 := hide ((unhide HM2).step hb2 hi2)
  clear hi2 hb2 HR2 HM2
  go_wp2_with fail
  obtain ⟨X, hX⟩ : ∃ X : Obj, X = .cells #[.int .i64 ((v0 : Nat) : Int), .string (S v1), .int .i64 v2] 46 (0, 0) := ⟨_, rfl⟩
  have HMX := hide ((unhide HM3).later (under_box X))
  have HXH : Hid ((y2.alloc X).heap[y2.heap.size]? = some X) := heap_alloc_new y2 X
  have HXZ : Hid (b < y2.heap.size) := (unhide HM3).lt
  rw [← hX]
  refine (unhide HCK _ (unhide HMD _ _ (unhide HMX))).mono ?_
  rintro e yc ⟨rfl, hbc⟩
  have HMC := hide ((unhide HMX).later hbc)
  have HXC := hide ((hbc.block _ (block_lt (unhide HXH))).trans (unhide HXH))
  clear hbc HMX HXH HCK HM3
  go_wp2_with fail
  refine (unhide HFA _ (unhide HMC).inn).mono ?_
  rintro e yf ⟨rfl, hif, hbf⟩
  have HMF := hide ((unhide HMC).step hbf hif)
  have HXF : Hid (yf.heap[y2.heap.size]? = some X) := (hbf.block _ (block_lt (unhide HXC)) (by have := unhide HXZ; omega)).trans (unhide HXC)
  clear hif hbf HMC HXC HFA
  go_wp2_with fail
  refine (unhide HER _ (unhide HMF).inn).mono ?_
  rintro e ye ⟨rfl, rfl⟩
  have hres := (unhide HMF).res
  rw [hR] at hres
  have hxx := unhide HXF
  rw [hX] at hxx
  obtain ⟨r0, r1, r2⟩ := heap_cells3 hres
  obtain ⟨x0, x1, x2⟩ := heap_cells3 hxx
  have rf := fun j => block_frozen hres j
  by_cases he : SS.2 = 0
  · have e0 : (SS.2 != 0) = false := by rw [he]; rfl
    have hC : C = V := by rw [unhide HCC, if_neg (by simpa using he)]
    have hz := put3_heap hres (.int .i64 ((v0 : Nat) : Int)) (.string (S v1)) (.int .i64 v2)
    obtain ⟨z0, z1, z2⟩ := heap_cells3 hz
    have HEND := hide ((unhide HMF).put3 (.int .i64 ((v0 : Nat) : Int)) (.string (S v1)) (.int .i64 v2))
    have HC := hide hC
    unfold put3 at z0 z1 z2 HEND
    clear he hz hres hxx hC HCC
    go_wp2_with fail
    exact bodyPost_ret (v := .agg #[.int .i64 ((v0 : Nat) : Int), .string (S v1), .int .i64 v2]) (by simp [results, Tryd.results22, go_sem, z0, z1, z2]) rfl ⟨by rw [unhide HC, unhide HVV], unhide HEND⟩
  · have e0 : (SS.2 != 0) = true := by rw [bne_iff_ne]; exact he
    have hC : C = ⟨0, [], 0⟩ := by rw [unhide HCC, if_pos he]
    have hz := put3_heap hres (.int .i64 0) (.string ⟨#[]⟩) (.int .i64 0)
    obtain ⟨z0, z1, z2⟩ := heap_cells3 hz
    have HEND := hide ((unhide HMF).put3 (.int .i64 0) (.string ⟨#[]⟩) (.int .i64 0))
    have HC := hide hC
    unfold put3 at z0 z1 z2 HEND
    clear he hz hres hxx hC HCC HVV
    go_wp2_with fail
    exact bodyPost_ret (v := .agg #[.int .i64 0, .string ⟨#[]⟩, .int .i64 0]) (by simp [results, Tryd.results22, go_sem, z0, z1, z2]) rfl ⟨by rw [unhide HC]; rfl, unhide HEND⟩
end Go.Proofs.YtfehpjmjchdkgaaDoor
