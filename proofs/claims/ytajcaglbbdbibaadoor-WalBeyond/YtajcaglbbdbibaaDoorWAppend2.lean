/- The contract of an Append that fits. -/
import Derived.Test.YtajcaglbbdbibaaDoorWAppend
namespace Go.Proofs.YtajcaglbbdbibaaDoor
open Go.RowKit
set_option linter.unusedVariables false
set_option maxRecDepth 100000

/- The worlds of Append's loop: the device is written, all else stands. -/
structure AS (base : Nat) (w wr : World) (b lb Z RB : Nat) (D : Dev) (fr ln head x q : Nat) (nx : Int) (s : List UInt8) : Prop where
  log : LogAt base wr b lb D fr ln head nx
  stp : LStep b lb w wr
  res : wr.heap[Z]? = some (.cells #[.int .i64 0, .int .i64 0, .string ⟨#[]⟩] 37 (0, 0))
  zf : DFor wr b Z
  rbx : wr.heap[RB]? = some (.cells #[.int .i64 (x : Int), .int .i64 (q : Int), .string (S s)] 37 (0, 0))
  rf : DFor wr b RB
  zlo : w.heap.size ≤ Z
  rlo : w.heap.size ≤ RB
section
variable {base : Nat} {w wr w' : World} {b lb Z RB : Nat} {D D' : Dev} {fr ln head x q : Nat} {nx : Int} {s : List UInt8}
theorem AS.step (h : AS base w wr b lb Z RB D fr ln head x q nx s) (hd : DevAt base w' b D') (hs : DStep b wr w') : AS base w w' b lb Z RB D' fr ln head x q nx s := by
  obtain ⟨e1, f1⟩ := hs.keep Z (block_lt h.res) h.zf
  obtain ⟨e2, f2⟩ := hs.keep RB (block_lt h.rbx) h.rf
  exact ⟨h.log.step hd hs, h.stp.trans (LStep.of hs), e1.trans h.res, f1, e2.trans h.rbx, f2, h.zlo, h.rlo⟩
theorem AS.later (h : AS base w wr b lb Z RB D fr ln head x q nx s) (hb : Below wr.heap.size wr w') : AS base w w' b lb Z RB D fr ln head x q nx s := h.step (h.log.dev.later hb).1 (h.log.dev.later hb).2
theorem AS.cells (h : AS base w wr b lb Z RB D fr ln head x q nx s) : (wr.cell? ⟨lb, 0, none⟩ = some (.pointer (some ⟨b, 0, none⟩)) ∧ wr.cell? ⟨lb, 1, none⟩ = some (.int .i64 (fr : Int)) ∧ wr.cell? ⟨lb, 2, none⟩ = some (.int .i64 (ln : Int)) ∧ wr.cell? ⟨lb, 3, none⟩ = some (.int .i64 (head : Int)) ∧ wr.cell? ⟨lb, 4, none⟩ = some (.int .i64 nx)) ∧ wr.cell? ⟨RB, 0, none⟩ = some (.int .i64 (x : Int)) ∧ wr.cell? ⟨RB, 1, none⟩ = some (.int .i64 (q : Int)) ∧ wr.cell? ⟨RB, 2, none⟩ = some (.string (S s)) :=
  ⟨wl_cells h.log.log, by rw [bcell h.rbx]; rfl, by rw [bcell h.rbx]; rfl, by rw [bcell h.rbx]; rfl⟩
theorem AS.zero (h : AS base w wr b lb Z RB D fr ln head x q nx s) : wr.cell? ⟨Z, 0, none⟩ = some (.int .i64 0) ∧ wr.cell? ⟨Z, 1, none⟩ = some (.int .i64 0) ∧ wr.cell? ⟨Z, 2, none⟩ = some (.string ⟨#[]⟩) ∧ wr.frozen? ⟨Z, 0, none⟩ = false ∧ wr.frozen? ⟨Z, 1, none⟩ = false ∧ wr.frozen? ⟨Z, 2, none⟩ = false :=
  ⟨by rw [bcell h.res]; rfl, by rw [bcell h.res]; rfl, by rw [bcell h.res]; rfl, bfroz h.res 0, bfroz h.res 1, bfroz h.res 2⟩
theorem AS.fill (h : AS base w wr b lb Z RB D fr ln head x q nx s) (u v z : Value) :
    LogAt base (((wr.setCell ⟨Z, 0, none⟩ u).setCell ⟨Z, 1, none⟩ v).setCell ⟨Z, 2, none⟩ z) b lb D fr ln head nx ∧ LStep b lb w (((wr.setCell ⟨Z, 0, none⟩ u).setCell ⟨Z, 1, none⟩ v).setCell ⟨Z, 2, none⟩ z) := by
  have ho : ∀ k, k ≠ Z → (((wr.setCell ⟨Z, 0, none⟩ u).setCell ⟨Z, 1, none⟩ v).setCell ⟨Z, 2, none⟩ z).heap[k]? = wr.heap[k]? := fun k hk => by
    rw [heap_setCell_other _ ⟨Z, 2, none⟩ k _ hk, heap_setCell_other _ ⟨Z, 1, none⟩ k _ hk, heap_setCell_other _ ⟨Z, 0, none⟩ k _ hk]
  have hlz : lb ≠ Z := by
    rintro rfl
    have h1 := h.log.log
    rw [h.res] at h1
    simp [WL] at h1
  obtain ⟨d1, f1, k1⟩ := dev_setOther h.log.dev h.zf 0 u
  obtain ⟨d2, f2, k2⟩ := dev_setOther d1 f1 1 v
  obtain ⟨d3, f3, k3⟩ := dev_setOther d2 f2 2 z
  refine ⟨⟨d3, h.log.lo, (ho lb hlz).trans h.log.log, k3 _ (k2 _ (k1 _ h.log.far))⟩, h.stp.os, h.stp.tape, h.stp.output, by simpa [World.setCell] using h.stp.size, fun k hk hn hf => ?_⟩
  obtain ⟨e, f⟩ := h.stp.keep k hk hn hf
  exact ⟨(ho k (by have := h.zlo; omega)).trans e, k3 _ (k2 _ (k1 _ f))⟩
theorem AS.ne (h : AS base w wr b lb Z RB D fr ln head x q nx s) : lb ≠ Z ∧ lb ≠ RB := by
  refine ⟨?_, ?_⟩
  · rintro rfl
    have h1 := h.log.log
    rw [h.res] at h1
    simp [WL] at h1
  · rintro rfl
    have h1 := h.log.log
    rw [h.rbx] at h1
    simp [WL] at h1
theorem AS.next (h : AS base w wr b lb Z RB D fr ln head x q nx s) (y : Int) : AS base w (wr.setCell ⟨lb, 4, none⟩ (.int .i64 y)) b lb Z RB D fr ln head x q y s := by
  obtain ⟨h1, h2⟩ := h.log.setNext y
  obtain ⟨e1, e2⟩ := h.ne
  obtain ⟨z1, z2⟩ := h2.keep Z (block_lt h.res) (Ne.symm e1) h.zf
  obtain ⟨r1, r2⟩ := h2.keep RB (block_lt h.rbx) (Ne.symm e2) h.rf
  exact ⟨h1, h.stp.trans h2, z1.trans h.res, z2, r1.trans h.rbx, r2, h.zlo, h.rlo⟩
end

set_option maxRecDepth 4000 in
set_option maxHeartbeats 3200000 in
theorem append_put {base : Nat} {w : World} {b lb : Nat} {d : Dev} {fr ln head x : Nat} (h : LogAt base w b lb d fr ln head x) (s : List UInt8) (hB : base ≤ w.heap.size) (hs : s.length ≤ 1099511627776) (h1 : head ≤ x) (hx1 : 1 ≤ x) (h2 : x + Codec.cost s.length - 1 ≤ 1099511627776) (h3 : ln ≤ 65536) (hfr : fr ≤ 65536) (hfit : x - head + Codec.cost s.length ≤ ln) (hl : d.left < 9223372036854775808) (hc : d.calls ≤ 1099511627776) (hn : d.W.length ≤ 549755813888) :
    Calls Tryd.prog 11 #[.pointer (some ⟨lb, 0, none⟩), .string (S s)] w fun e w' =>
      ((Dev.puts fr ln s x (Codec.cost s.length) 0 d).2 = 0 → e = .returned (.tuple #[.agg #[.int .i64 (x : Int), .int .i64 ((x + Codec.cost s.length - 1 : Nat) : Int), .string (S s)], .int .i64 0]) ∧ LogAt base w' b lb (Dev.puts fr ln s x (Codec.cost s.length) 0 d).1 fr ln head ((x + Codec.cost s.length : Nat) : Int)) ∧
      ((Dev.puts fr ln s x (Codec.cost s.length) 0 d).2 ≠ 0 → e = .returned (.tuple #[R0, .int .i64 (Dev.puts fr ln s x (Codec.cost s.length) 0 d).2]) ∧ LogAt base w' b lb (Dev.puts fr ln s x (Codec.cost s.length) 0 d).1 fr ln head x) ∧ LStep b lb w w' := by
  have HC := hide (fun wy => wcost_any s.length wy hs)
  have hcp := Codec.cost_pos s.length
  have hsz : (S s).size = s.length := rfl
  have HPL := hide (fun a wy (hy : a ≤ 4398046511104) => place_any fr ln a wy (by omega) (by omega) (by omega) hy)
  have HSEC := hide (fun j wy (hj : j < Codec.cost s.length) => sector_any s x j wy hj (by omega) hs)
  have HWR : Hid (∀ j wy D, j < Codec.cost s.length → DevAt base wy b D → base ≤ wy.heap.size → D.left < 9223372036854775808 → D.calls < 4611686018427387904 → D.W.length ≤ 1099511627776 → Calls Tryd.prog 26 #[.pointer (some ⟨b, 0, none⟩), .int .i64 ((place fr ln (x + j) : Nat) : Int), SV (Codec.sec s x j)] wy fun e w' => e = .returned (.int .i64 (D.writeE ((place fr ln (x + j) : Nat) : Int) (Codec.secText (Codec.sec s x j)))) ∧ DevAt base w' b (D.write ((place fr ln (x + j) : Nat) : Int) (Codec.secText (Codec.sec s x j))) ∧ DStep b wy w') :=
    fun j wy D hj hd hB q1 q2 q3 => swrite_ok hd _ _ (Codec.sec_ok s x j (by omega)) (Codec.piece_length s j) (by show 1 ≤ x + j; omega) q1 q2 q3 hB
  obtain ⟨w0, hw0⟩ : ∃ w0, w.alloc (.cells #[.int .i64 0, .int .i64 0, .string ⟨#[]⟩] 37) = w0 := ⟨_, rfl⟩
  have hb0 : Below w.heap.size w w0 := by rw [← hw0]; exact (Below.refl _ _).alloc (Nat.le_refl _) _
  have hz0 : w0.heap[w.heap.size]? = some (.cells #[.int .i64 0, .int .i64 0, .string ⟨#[]⟩] 37 (0, 0)) := by rw [← hw0]; exact heap_alloc_new w _
  have HFR := hide (free_any (h.later hb0).1.log (by omega) (by omega) (by omega) (by omega) (by omega))
  have hw0s : w0.heap.size = w.heap.size + 1 := by rw [← hw0]; simp
  obtain ⟨c, hcc⟩ : ∃ c, Codec.cost s.length = c := ⟨_, rfl⟩
  rw [hcc] at hcp h2 hfit HC HSEC HWR ⊢
  obtain ⟨q, hq⟩ : ∃ q, x + c - 1 = q := ⟨_, rfl⟩
  obtain ⟨n, hnn⟩ : ∃ n, s.length = n := ⟨_, rfl⟩
  rw [hq] at HSEC h2 ⊢
  rw [hnn] at hs hsz HC
  have hgt : ¬ (ln : Int) - ((x : Int) - (head : Int)) < (c : Int) := by omega
  generalize (ln : Int) - ((x : Int) - (head : Int)) = f at *
  obtain ⟨P, hP⟩ : ∃ P, Dev.puts fr ln s x c 0 d = P := ⟨_, rfl⟩
  rw [hP]
  have HP := hide hP
  obtain ⟨Z, hZ⟩ : ∃ Z, w.heap.size = Z := ⟨_, rfl⟩
  have hxc : (x : Int) + (c : Int) - 1 = (q : Int) := by omega
  have hq40 : ¬ (1099511627776 : Int) < (q : Int) := by omega
  have HHQ := hide hq
  clear hP hcc hnn hq
  go_enter Tryd.func11, Tryd.ntmps11
  go_wp2_with fail
  refine (unhide HC _).mono ?_
  rintro e w1 ⟨rfl, rfl⟩
  go_wp2_with fail
  refine (unhide HFR).mono ?_
  rintro e w2 ⟨rfl, nq, rfl⟩
  have hbX : Below w.heap.size w (w1.drewN nq) := w_below_drewN hb0 nq
  have hz : (w1.drewN nq).heap[Z]? = some (.cells #[.int .i64 0, .int .i64 0, .string ⟨#[]⟩] 37 (0, 0)) := by rw [← hZ]; exact hz0
  have hl2 := (h.later hbX).1
  obtain ⟨c0, c1, c2, c3, c4⟩ := wl_cells hl2.log
  have hZ1 : (w1.drewN nq).heap.size = Z + 1 := by rw [← hZ]; exact hw0s
  have HBX := hide hbX
  have HZ := hide hz
  have HL2 := hide hl2
  have HZ1 := hide hZ1
  have HHZ := hide hZ
  generalize w1.drewN nq = w2 at *
  have c4A : ∀ o, (w2.alloc o).cell? ⟨lb, 4, none⟩ = some (.int .i64 (x : Int)) := fun o => by
    rw [World.cell?_of_block (w := w2) (a := ⟨lb, 4, none⟩) (Below.heap_alloc w2 o lb (block_lt hl2.log))]; exact c4
  clear HC HFR hb0 hz0 hw0 hw0s hbX hz hl2 hZ1 hZ
  go_wp2_with fail
  go_region
  obtain ⟨RB, hRB⟩ : ∃ RB, w2.heap.size = RB := ⟨_, rfl⟩
  have HS3 : Hid (AS base w (w2.alloc (.cells #[.int .i64 (x : Int), .int .i64 (q : Int), .string (S s)] 37)).drew b lb Z RB d fr ln head x q x s) := by
    have hl2 := unhide HL2
    have hb3 : Below w2.heap.size w2 (w2.alloc (.cells #[.int .i64 (x : Int), .int .i64 (q : Int), .string (S s)] 37)).drew := ((Below.refl _ w2).alloc (Nat.le_refl _) _).drew
    obtain ⟨h31, h32⟩ := hl2.later hb3
    have hz := unhide HZ
    have hzf : DFor w b Z := DFor.new h.dev (by rw [unhide HHZ]; exact Nat.le_refl _)
    have hzf2 : DFor w2 b Z := hzf.same ((unhide HBX).block b h.dev.lt)
    refine ⟨h31, (h.later (unhide HBX)).2.trans h32, (hb3.block Z (block_lt hz)).trans hz, hzf2.same (hb3.block b hl2.dev.lt), ?_, ?_, by rw [unhide HHZ]; exact Nat.le_refl _, by have := unhide HZ1; have := unhide HHZ; omega⟩
    · rw [← hRB]; exact heap_alloc_new w2 _
    · exact (DFor.new hl2.dev (by omega)).same (hb3.block b hl2.dev.lt)
  have hA3 := (unhide HS3).cells
  obtain ⟨⟨a0, a1, a2, a3, a4⟩, r0, r1, r2⟩ := hA3
  rw [hRB]
  generalize (w2.alloc (.cells #[.int .i64 (x : Int), .int .i64 (q : Int), .string (S s)] 37)).drew = w3 at *
  clear c0 c1 c2 c3 c4 c4A HL2 HZ HBX HZ1 hRB hgt hxc
  unfold AV at HPL
  go_wp2_with fail
  clear a0 a1 a2 a3 a4 r0 r1 r2
  go_loopw [8] (fun i wr => ∃ (j : Nat) (D : Dev), j ≤ c ∧ i = .int .i64 ((x + j : Nat) : Int) ∧ Dev.puts fr ln s x c 0 d = Dev.puts fr ln s x (c - j) j D ∧ AS base w wr b lb Z RB D fr ln head x q x s ∧ D.left ≤ d.left ∧ D.calls ≤ d.calls + j ∧ D.W.length ≤ d.W.length + j) (fun i _ => x + c - (intOf i).toNat)
  case atStart => exact ⟨0, d, Nat.zero_le _, rfl, rfl, unhide HS3, Nat.le_refl _, Nat.le_refl _, Nat.le_refl _⟩
  case round =>
    obtain ⟨j, D, hj, rfl, hpu, has, hD1, hD2, hD3⟩ := hrel
    clear HS3
    obtain ⟨a, hax⟩ : ∃ a, x + j = a := ⟨_, rfl⟩
    rw [hax]
    have HAS := hide has
    have HPU := hide hpu
    obtain ⟨⟨a0, a1, a2, a3, a4⟩, r0, r1, r2⟩ := has.cells
    by_cases hlt : j < c
    · have hqq := unhide HHQ
      have hle : (a : Int) ≤ (q : Int) := by omega
      have ha40 : a ≤ 4398046511104 := by omega
      clear hqq
      obtain ⟨n', hn'⟩ : ∃ n', c - j = n' + 1 := ⟨c - j - 1, by omega⟩
      have HSE := hide (fun wy => unhide HSEC j wy hlt)
      have HW2 := hide (fun wy (hd : DevAt base wy b D) (hB : base ≤ wy.heap.size) => unhide HWR j wy D hlt hd hB (by omega) (by omega) (by omega))
      have hpu2 := hpu
      rw [hn', Dev.puts] at hpu2
      have hg := write_grows D ((place fr ln (x + j) : Nat) : Int) (Codec.secText (Codec.sec s x j))
      rw [hax] at HSE HW2 hpu2 hg
      generalize D.writeE ((place fr ln a : Nat) : Int) (Codec.secText (Codec.sec s x j)) = E at *
      generalize D.write ((place fr ln a : Nat) : Int) (Codec.secText (Codec.sec s x j)) = D1 at *
      generalize SV (Codec.sec s x j) = sv at *
      have HP2 := hide hpu2
      have HG := hide hg
      have HPA := hide (fun wy => unhide HPL a wy ha40)
      generalize place fr ln a = pl at *
      have HBc : Hid (AS base w wr.drew b lb Z RB D fr ln head x q x s) := has.later (Below.refl _ _).drew
      obtain ⟨⟨b0, b1, b2, b3, b4⟩, s0, s1, s2⟩ := (unhide HBc).cells
      have HAX := hide hax
      have HN := hide hn'
      clear has hpu hpu2 hg hax hn'
      go_wp2_with fail
      go_region_law (first
        | (go_simp; go_at_call 27; refine (unhide HPA _).mono ?_; rintro e wz ⟨rfl, hbz⟩; have HBc := hide ((unhide HBc).later hbz); obtain ⟨⟨b0, b1, b2, b3, b4⟩, s0, s1, s2⟩ := (unhide HBc).cells; clear hbz)
        | (go_simp; go_at_call 28; refine (unhide HSE _).mono ?_; rintro e wz ⟨rfl, hbz⟩; have HBc := hide ((unhide HBc).later hbz); obtain ⟨⟨b0, b1, b2, b3, b4⟩, s0, s1, s2⟩ := (unhide HBc).cells; clear hbz)
        | (go_simp; go_at_call 26; refine (unhide HW2 _ (unhide HBc).log.dev (Nat.le_trans hB (unhide HBc).stp.size)).mono ?_; rintro e wv ⟨rfl, hdv, hsv⟩; have HV := hide ((unhide HBc).step hdv hsv); obtain ⟨⟨t0, t1, t2, t3, t4⟩, v0, v1, v2⟩ := (unhide HV).cells; clear hdv hsv))
      all_goals
        clear a0 a1 a2 a3 a4 r0 r1 r2 b0 b1 b2 b3 b4 s0 s1 s2 HBc HPA HSE HW2 HAS
        by_cases hE : E = 0
        · subst hE
          clear t0 t1 t2 t3 t4 v0 v1 v2
          go_wp2_with fail
          have hg := unhide HG
          refine ⟨⟨j + 1, D1, by omega, by have := unhide HAX; simp; omega, ?_, unhide HV, by omega, by omega, by omega⟩, ?_⟩
          · have := unhide HP2
            rw [if_neg (by simp)] at this
            rw [this, show c - (j + 1) = n' by have := unhide HN; omega]
          · have := unhide HAX
            simp [intOf]
            have := unhide HHQ
            omega
        · have hEb : (E != 0) = true := by simpa using hE
          have hPE : P = (D1, E) := by
            rw [← unhide HP, unhide HP2, if_pos hE]
          have HPE := hide hPE
          have HE := hide hE
          obtain ⟨z0, z1, z2, f0, f1, f2⟩ := (unhide HV).zero
          clear t0 t1 t2 t3 t4 v0 v1 v2 hPE hE
          go_wp2_with fail
          have h9 := set3 (unhide HV).res (.int .i64 0) (.int .i64 0) (.string ⟨#[]⟩)
          have d0 := bcell h9 0
          have d1 := bcell h9 1
          have d2 := bcell h9 2
          simp only [List.getElem?_toArray, List.getElem?_cons_zero, List.getElem?_cons_succ] at d0 d1 d2
          obtain ⟨g1, g2⟩ := (unhide HV).fill (.int .i64 0) (.int .i64 0) (.string ⟨#[]⟩)
          refine bodyPost_ret (v := .tuple #[R0, .int .i64 E]) (by simp [results, Tryd.results11, go_sem, d0, d1, d2, R0]) rfl ?_
          rw [unhide HPE]
          exact ⟨fun e => absurd e (unhide HE), fun _ => ⟨rfl, g1⟩, g2⟩
    · have hjc : j = c := by omega
      have hle : ¬ (a : Int) ≤ (q : Int) := by have := unhide HHQ; omega
      have hPE : P = (D, 0) := by
        rw [← unhide HP, hpu, hjc, Nat.sub_self]
        rfl
      have HPE := hide hPE
      have hN := has.next ((q : Int) + 1)
      have f4 := wl_froz has.log.log 4
      obtain ⟨z0, z1, z2, f0, f1, f2⟩ := hN.zero
      obtain ⟨⟨b0, b1, b2, b3, b4⟩, s0, s1, s2⟩ := hN.cells
      have HNX := hide hN
      have HQ1 : Hid ((q : Int) + 1 = ((x + c : Nat) : Int)) := by have := unhide HHQ; show (q : Int) + 1 = ((x + c : Nat) : Int); omega
      clear hPE hpu has hjc hlt hax hN
      go_wp2_with fail
      have h9 := set3 (unhide HNX).res (.int .i64 (x : Int)) (.int .i64 (q : Int)) (.string (S s))
      have d0 := bcell h9 0
      have d1 := bcell h9 1
      have d2 := bcell h9 2
      simp only [List.getElem?_toArray, List.getElem?_cons_zero, List.getElem?_cons_succ] at d0 d1 d2
      obtain ⟨g1, g2⟩ := (unhide HNX).fill (.int .i64 (x : Int)) (.int .i64 (q : Int)) (.string (S s))
      refine bodyPost_ret (v := .tuple #[.agg #[.int .i64 (x : Int), .int .i64 (q : Int), .string (S s)], .int .i64 0]) (by simp [results, Tryd.results11, go_sem, d0, d1, d2]) rfl ?_
      have e1 : (x : Int) + (c : Int) = (q : Int) + 1 := by have := unhide HQ1; omega
      rw [unhide HPE, e1]
      exact ⟨fun _ => ⟨rfl, g1⟩, fun e => absurd rfl e, g2⟩
end Go.Proofs.YtajcaglbbdbibaaDoor
