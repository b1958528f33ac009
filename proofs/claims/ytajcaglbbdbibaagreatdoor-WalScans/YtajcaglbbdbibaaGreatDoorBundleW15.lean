/- WalScans' walk. -/
import Derived.Test.YtajcaglbbdbibaaGreatDoorBundleW13
import Derived.Test.YtajcaglbbdbibaaGreatDoorBundleW7
import Derived.Test.YtajcaglbbdbibaaGreatDoorBundleA14
import Derived.Deep.Strs
import Derived.Deep.DeepCutAuto
import Derived.Deep.RegionHeld3
import Derived.Deep.CutBlock
namespace Go.Proofs.YtajcaglbbdbibaaGreatDoor
open Go.RowKit Go.ChangeShapes Go.WideShapes
set_option linter.unusedVariables false
set_option maxRecDepth 100000

theorem scan_len {g : Nat → Option Codec.Sec} : ∀ n a o t f, (Codec.scan g n a o t f).1.length ≤ n
  | 0, a, o, t, f => Nat.le_refl _
  | n + 1, a, o, t, f => by
    unfold Codec.scan
    split
    · exact Nat.zero_le _
    · split
      · split
        · have := scan_len (g := g) n (a + 1) true (t ++ ‹Codec.Sec›.data) f
          omega
        · have := scan_len (g := g) n (a + 1) false [] (a + 1)
          show (_ :: (Codec.scan g n (a + 1) false [] (a + 1)).1).length ≤ n + 1
          simp
          exact this
      · exact Nat.zero_le _
/- Sectors that came in. -/
structure SecIs (w : World) (a : Option Addr) (i : Nat) (st mk : Int) (s : List UInt8) : Prop where
  cells : ∃ b off, a = some ⟨b, off, none⟩ ∧ w.cell? ⟨b, off + i * 3, none⟩ = some (.int .i64 st) ∧ w.cell? ⟨b, off + i * 3 + 1, none⟩ = some (.int .u8 mk) ∧ w.cell? ⟨b, off + i * 3 + 2, none⟩ = some (.string (S s))
  lo : 0 ≤ mk
  hi : mk ≤ 255
def SecsIn (w : World) (a : Option Addr) (len : Nat) : Prop := ∀ i, i < len → ∃ st mk s, SecIs w a i st mk s
theorem pl_wf_u8 {n : Int} (h : (Lit.int .u8 n).wf = true) : 0 ≤ n ∧ n ≤ 255 := by
  simpa [Lit.wf, IntKind.min, IntKind.max, IntKind.bits, IntKind.signed] using h
theorem secs_open {H : Type} {enc : TypeId × Value → H} {W : World} {base b0 : Nat} {spare : Nat → Bool} {held : Bool} {r : Reach} {v : Value} {d : DataW H} {p : List MemPlace}
    (hv : Value.okWide Tryz.prog W r b0 22 v) (hd : DataW.Trod enc Tryz.prog W base spare held 22 v d p) :
    ∃ a len cap, v = .slice a len cap ∧ len ≤ maxLen ∧ SecsIn W a len := by
  obtain ⟨a, len, cap, rfl⟩ := okWide_slice Tryz.underlying22 hv
  obtain ⟨fuel, hf⟩ := hd
  have ce : Tryz.prog.cellsOf 33 = 3 := by kernel_rfl
  have hf' : DataW.trod enc Tryz.prog W base spare held fuel 22 [.slice a len cap] = some (d, p) := by simpa [Value.cells] using hf
  obtain ⟨hl, hm, hall⟩ := slice_structs Tryz.underlying22 (by rw [ce]; decide) hf'
  rw [ce] at hall
  refine ⟨a, len, cap, rfl, by omega, fun i hi => ?_⟩
  obtain ⟨b, off, cs, rfl, hlen, hcell, n, y, htr⟩ := hall i hi
  match cs, hlen with
  | [v0, v1, v2], _ =>
    obtain ⟨y0, y1, y2, m, _, _, t0, t1, t2⟩ := Go.Deep.trod_struct3 Tryz.underlying33 htr
    have c0 := hcell 0 (by omega)
    have c1 := hcell 1 (by omega)
    have c2 := hcell 2 (by omega)
    simp at c0 c1 c2
    have x3 : Tryz.prog.cellsOf 3 = 1 := by kernel_rfl
    have x5 : Tryz.prog.cellsOf 5 = 1 := by kernel_rfl
    have x9 : Tryz.prog.cellsOf 9 = 1 := by kernel_rfl
    simp [x3] at t0
    simp [x5] at t1
    simp [x9] at t2
    obtain ⟨k0, e0, _, w0⟩ := DataW.trod_int Tryz.underlying3 t0
    obtain ⟨k1, e1, _, w1⟩ := DataW.trod_int Tryz.underlying5 t1
    obtain ⟨k2, e2, _, w2⟩ := DataW.trod_string Tryz.underlying9 t2
    simp only [List.cons.injEq, and_true] at e0 e1 e2
    subst e0 e1 e2
    obtain ⟨h5, h6⟩ := pl_wf_u8 w1
    exact ⟨k0, k1, k2.data.toList, ⟨b, off, rfl, c0, c1, c2⟩, h5, h6⟩
theorem SecIs.later {w w' : World} {a : Option Addr} {i : Nat} {st mk : Int} {s : List UInt8} (h : SecIs w a i st mk s) (hb : Below w.heap.size w w') : SecIs w' a i st mk s := by
  obtain ⟨⟨b, off, ha, c0, c1, c2⟩, h1, h2⟩ := h
  refine ⟨⟨b, off, ha, ?_, ?_, ?_⟩, h1, h2⟩
  · rw [hb.cell (p := ⟨b, off + i * 3, none⟩) (cell_lt c0)]; exact c0
  · rw [hb.cell (p := ⟨b, off + i * 3 + 1, none⟩) (cell_lt c1)]; exact c1
  · rw [hb.cell (p := ⟨b, off + i * 3 + 2, none⟩) (cell_lt c2)]; exact c2

/- A device that has power, of 24 whole sectors. -/
structure DW (m : Nat) (D : Dev) : Prop where
  dn : D.down = false
  ar : D.armed = false
  lf : D.left = 0
  len : D.L.length = 24
  fine : Fine D
  wl : D.W.length ≤ m
  cl : D.calls ≤ m
section
variable {m : Nat} {D : Dev}
theorem DW.new : DW 0 (Dev.new 24) := ⟨rfl, rfl, rfl, by simp [Dev.new], Fine.new 24 (by omega), Nat.le_refl _, Nat.le_refl _⟩
theorem DW.out (h : DW m D) : ¬ D.out := by unfold Dev.out; rw [h.dn, h.ar]; simp
theorem DW.mono (h : DW m D) {m' : Nat} (hm : m ≤ m') : DW m' D := ⟨h.dn, h.ar, h.lf, h.len, h.fine, by have := h.wl; omega, by have := h.cl; omega⟩
theorem DW.write (h : DW m D) (i : Nat) (hi : i < 24) (T : List UInt8) (hT : T.length = 64) : DW (m + 1) (D.write (i : Int) T) := by
  obtain ⟨e, _⟩ := w_write D i T (by rw [h.len]; exact hi) hT h.out
  rw [e]
  refine ⟨h.dn, h.ar, ?_, h.len, h.fine.writes [(i, T)] ?_ _ rfl rfl, ?_, ?_⟩
  · show (if D.armed then _ else D.left) = 0
    rw [h.ar]; exact h.lf
  · intro x hx
    simp at hx
    subst hx
    exact ⟨by rw [h.len]; exact hi, hT⟩
  · show (D.W ++ [(i, T)]).length ≤ _
    rw [List.length_append]; have := h.wl; simp; omega
  · show D.calls + 1 ≤ _
    have := h.cl; omega
theorem DW.flush (h : DW m D) : DW (m + 1) D.flush := by
  obtain ⟨e1, e2, e3, e4, e5, e6⟩ := flush_shape D h.out
  refine ⟨e3.trans h.dn, e4.trans h.ar, ?_, e1.trans h.len, h.fine.flush h.out, by rw [e2]; exact Nat.zero_le _, by rw [e5]; have := h.cl; omega⟩
  unfold Dev.flush Dev.begin
  rw [if_neg h.out, if_neg h.out, h.ar]
  exact h.lf
theorem DW.spoil (h : DW m D) (i : Nat) (hi : i < 24) (s : List UInt8) : DW m (D.spoil (i : Int) s) := by
  have hno : ¬ D.no (i : Int) := by unfold Dev.no; rw [h.len]; omega
  have e : D.spoil (i : Int) s = { D with L := D.L.set i (whole s) } := by unfold Dev.spoil; rw [if_neg hno, Int.toNat_natCast]
  rw [e]
  refine ⟨h.dn, h.ar, h.lf, by show (D.L.set i (whole s)).length = 24; rw [List.length_set]; exact h.len, ⟨⟨fun x hx => by show x.1 < (D.L.set i (whole s)).length; rw [List.length_set]; exact h.fine.ok.has x hx, by show 0 < (D.L.set i (whole s)).length; rw [List.length_set]; exact h.fine.ok.some⟩, fun k c hc => ?_⟩, h.wl, h.cl⟩
  rcases hc with hc | hc
  · have hc2 : (D.L.set i (whole s))[k]? = some c := hc
    rw [List.getElem?_set] at hc2
    split at hc2
    · split at hc2
      · cases hc2; exact whole_length s
      · cases hc2
    · exact h.fine.sz k c (.inl hc2)
  · exact h.fine.sz k c (.inr hc)
end
/- A Write of any sector. -/
theorem swrite_some {base : Nat} {w : World} {b : Nat} {D : Dev} {m : Nat} (h : DevAt base w b D) (hd : DW m D) (i : Nat) (hi : i < 24) (st mk : Int) (t : List UInt8) (hm0 : 0 ≤ mk) (hm1 : mk ≤ 255) (ht : t.length ≤ 44) (hm : m ≤ 1000000) (hB : base ≤ w.heap.size) :
    Calls Tryz.prog 8 #[.pointer (some ⟨b, 0, none⟩), .int .i64 (i : Int), .agg #[.int .i64 st, .int .u8 mk, .string (S t)]] w fun e w' => ∃ (x : Int) (D' : Dev), e = .returned (.int .i64 x) ∧ DW (m + 1) D' ∧ DevAt base w' b D' ∧ DStep b w w' := by
  by_cases hc : chk st t = 0
  · have hst : 1 ≤ st ∧ st ≤ 1099511627776 := by
      unfold chk at hc
      split at hc
      · omega
      · omega
    obtain ⟨n, rfl⟩ : ∃ n : Nat, st = (n : Int) := ⟨st.toNat, by omega⟩
    obtain ⟨k, rfl⟩ : ∃ k : Nat, mk = (k : Int) := ⟨mk.toNat, by omega⟩
    have hok : (⟨n, k, t⟩ : Codec.Sec).Ok := ⟨by show n ≤ _; omega, by show k ≤ 255; omega, by show t.length ≤ 50; omega⟩
    refine (swrite_ok h (i : Int) ⟨n, k, t⟩ hok ht (by show 1 ≤ n; omega) (by rw [hd.lf]; omega) (by have := hd.cl; omega) (by have := hd.wl; omega) hB).mono ?_
    rintro e w' ⟨rfl, h1, h2⟩
    exact ⟨_, _, rfl, hd.write i hi _ (Codec.secText_length _ hok ht), h1, h2⟩
  · refine (swrite_no h (i : Int) st mk t hc).mono ?_
    rintro e w' ⟨rfl, h1, h2⟩
    exact ⟨_, _, rfl, hd.mono (by omega), h1, h2⟩

theorem w_and255 (a : Int) (n : Nat) (h1 : 1 ≤ n) : ∃ k : Nat, k < n ∧ (bits .and .i64 a 255).tmod (n : Int) = (k : Int) := by
  have h := pl_and_mask a 8 255 (by omega) (by decide)
  have h3 : 0 ≤ bits .and .i64 a 255 := by rw [h]; exact Int.emod_nonneg _ (by decide)
  have h4 := Int.emod_nonneg (bits .and .i64 a 255) (b := (n : Int)) (by omega)
  have h5 := Int.emod_lt_of_pos (bits .and .i64 a 255) (b := (n : Int)) (by omega)
  exact ⟨((bits .and .i64 a 255) % (n : Int)).toNat, by omega, by rw [Int.tmod_eq_emod_of_nonneg h3]; omega⟩

set_option maxRecDepth 100000 in
set_option maxHeartbeats 6400000 in
theorem wscans_any (a0 a1 : Int) (a : Option Addr) (len cap : Nat) (w : World) (hlen : len ≤ maxLen) (hsec : SecsIn w a len) (a3 : Option Addr) (len3 cap3 : Nat) (l3 : List Int) (hl3 : l3.length = len3) (hm3 : len3 ≤ maxLen) (hr3 : NumRow w (.slice a3 len3 cap3) l3) (a4 : Int) :
    Calls Tryz.prog 3 #[.int .i64 a0, .int .i64 a1, .slice a len cap, .slice a3 len3 cap3, .int .i64 a4] w fun e w' => e = .returned (.bool true) ∧ Below w.heap.size w w' := by
  unfold maxLen at hlen hm3
  have HSEC := hide hsec
  have HR3 := hide hr3
  have HL3 := hide hl3
  obtain ⟨z, hze, hz2⟩ : ∃ z : Nat, bits .and .i64 a4 255 = (z : Int) ∧ z ≤ 255 := ⟨(a4 % 256).toNat, by rw [pl_and_mask a4 8 255 (by omega) (by decide)]; omega, by omega⟩
  obtain ⟨x, hx⟩ : ∃ x, 1 + z = x := ⟨_, rfl⟩
  have hxe : 1 + (z : Int) = (x : Int) := by omega
  have hx1 : 1 ≤ x := by omega
  have hx2 : x ≤ 256 := by omega
  have HAW := hide (fun w => wawake_any w)
  have HARE := hide (fun w => warea_any a0 a1 w)
  have HNEW := hide (fun w => new_ok 24 w (by omega) (by omega))
  clear hsec hr3 hl3 hx
  go_enter Tryz.func3, Tryz.ntmps3
  go_wp2_with fail
  refine (unhide HAW _).mono ?_
  rintro e w1 ⟨rfl, hb1⟩
  have HB1 := hide hb1
  obtain ⟨fr, ln, hfr, hln2, hln17, har⟩ := unhide HARE w1
  have HAR := hide har
  clear hb1 HAW har HARE
  go_wp2_with fail
  refine (unhide HAR).mono ?_
  rintro e w1 ⟨rfl, hb1⟩
  obtain ⟨w2, hw2⟩ : ∃ w2, w1.alloc (.cells #[.int .i64 (fr : Int), .int .i64 (ln : Int)] 26) = w2 := ⟨_, rfl⟩
  obtain ⟨A, hA⟩ : ∃ A, w1.heap.size = A := ⟨_, rfl⟩
  have hb11 := (unhide HB1).trans (hb1.mono (unhide HB1).size)
  have hb12 : Below w.heap.size w w2 := by rw [← hw2]; exact hb11.alloc hb11.size _
  have hx2' : w2.heap[A]? = some (.cells #[.int .i64 (fr : Int), .int .i64 (ln : Int)] 26 (0, 0)) := by rw [← hw2, ← hA]; exact heap_alloc_new w1 _
  have HX2 := hide hx2'
  have HB2 := hide hb12
  clear hb1 hx2' hb12 hb11 HAR HB1
  go_wp2_with fail
  refine (unhide HNEW _).mono ?_
  rintro e w3 ⟨b, rfl, hd3, hb3⟩
  obtain ⟨B, hB⟩ : ∃ B, w2.heap.size = B := ⟨_, rfl⟩
  rw [hB] at hd3 hb3
  have HAB : Hid (A < B) := by rw [← hB]; exact block_lt (unhide HX2)
  have HWB : Hid (w.heap.size ≤ B) := by rw [← hB]; exact (unhide HB2).size
  have HD3 := hide hd3
  have HL3w := hide hb3
  clear hd3 hb3 HNEW hw2 hA hB
  go_upto_block 0 with fail
  go_cut [14, 15] (fun _ _ wx => ∃ (m : Nat) (D : Dev), m ≤ 17 ∧ DW m D ∧ DevAt B wx b D ∧ Below B w2 wx)
  case first =>
    go_wp2_with fail
    go_loopw [14, 15] (fun i _ wr => ∃ (j m : Nat) (D : Dev), j ≤ len ∧ j ≤ ln ∧ i = .int .i64 j ∧ m ≤ j ∧ DW m D ∧ DevAt B wr b D ∧ Below B w2 wr) (fun i _ _ => ln - (intOf i).toNat)
    case atStart => exact ⟨0, 0, Dev.new 24, Nat.zero_le _, Nat.zero_le _, rfl, Nat.le_refl _, DW.new, unhide HD3, unhide HL3w⟩
    case round =>
      obtain ⟨j, m, D, hj0, hjn, rfl, hm, hdw, hdv, hlow⟩ := hrel
      clear HD3 HL3w
      have HDW := hide hdw
      have HDV := hide hdv
      have HLW := hide hlow
      have HSZ : Hid (B ≤ wr.heap.size) := by have := hdv.lo; have := hdv.lt; show B ≤ _; omega
      have hx3 := (hlow.block A (unhide HAB)).trans (unhide HX2)
      have p0 := bcell hx3 0
      have p1 := bcell hx3 1
      simp only [List.getElem?_toArray, List.getElem?_cons_zero, List.getElem?_cons_succ] at p0 p1
      have hAlt := block_lt hx3
      by_cases hlt0 : j < len
      · have i1 : (j : Int) < (len : Int) := by omega
        by_cases hltn : j < ln
        · obtain ⟨st, mk, s, hsi⟩ := unhide HSEC j hlt0
          obtain ⟨⟨bk, off, rfl, c0, c1, c2⟩, hmk0, hmk1⟩ := hsi.later ((unhide HB2).trans (hlow.mono (unhide HWB)))
          have i2 : (j : Int) < (ln : Int) := by omega
          have i3 : (0 : Int) ≤ (j : Int) := by omega
          have HCUT := hide (fun wy => dcut_any s 44 wy)
          obtain ⟨t, ht⟩ : ∃ t, s.take 44 = t := ⟨_, rfl⟩
          have ht44 : t.length ≤ 44 := by rw [← ht, List.length_take]; omega
          rw [ht] at HCUT
          have hfj : (fr : Int) + (j : Int) = ((fr + j : Nat) : Int) := by omega
          have r0 : ∀ o, (wr.alloc o).cell? ⟨A, 0, none⟩ = some (.int .i64 (fr : Int)) := fun o => (((Below.refl _ wr).alloc (Nat.le_refl _) o).cell (p := ⟨A, 0, none⟩) hAlt).trans p0
          obtain ⟨f, hf⟩ : ∃ f, fr + j = f := ⟨_, rfl⟩
          rw [hf] at hfj
          have hfl : f < 24 := by omega
          clear hdw hdv hlow hx3 ht hsi hf
          go_wp2_with fail
          refine (unhide HCUT _).mono ?_
          rintro e w5 ⟨rfl, rfl⟩
          clear HCUT c0 c1 c2
          go_wp2_with fail
          refine (swrite_some ((unhide HDV).later ((Below.refl _ _).alloc (Nat.le_refl _) _)).1 (unhide HDW) f hfl st mk t hmk0 hmk1 ht44 (by omega) (by have := unhide HSZ; simp; omega)).mono ?_
          rintro e w6 ⟨er, D', rfl, hdw', hdv', hst'⟩
          have HE : Hid (DW (m + 1) D' ∧ DevAt B w6 b D' ∧ Below B w2 w6) := by
            refine ⟨hdw', hdv', ((unhide HLW).alloc (unhide HSZ) _).trans (hst'.below ((unhide HDV).later ((Below.refl _ _).alloc (Nat.le_refl _) _)).1 (by have := unhide HSZ; simp; omega))⟩
          clear hdw' hdv' hst' p0 p1 r0
          go_wp2_with fail
          exact ⟨⟨j + 1, m + 1, D', by omega, by omega, by simp, by omega, (unhide HE).1, (unhide HE).2.1, (unhide HE).2.2⟩, by simp [intOf]; omega⟩
        · have i2 : ¬ (j : Int) < (ln : Int) := by omega
          clear hdw hdv hlow hx3
          go_wp2_with fail
          go_meet
          case rel => exact ⟨m, D, by omega, unhide HDW, unhide HDV, unhide HLW⟩
      · have i1 : ¬ (j : Int) < (len : Int) := by omega
        clear hdw hdv hlow hx3
        go_wp2_with fail
        go_meet
        case rel => exact ⟨m, D, by omega, unhide HDW, unhide HDV, unhide HLW⟩
  case rest =>
  obtain ⟨m, D, hm, hdw, hdv, hlow⟩ := hcut
  have HFL := hide (flush_any hdv hdw.fine.ok (by rw [hdw.lf]; omega) (by have := hdw.cl; omega) (by have := hdw.wl; omega) (by rw [hdw.len]; omega))
  have HDW := hide hdw.flush
  have HDV := hide hdv
  have HLW := hide hlow
  have HSZ : Hid (B ≤ wc.heap.size) := by have := hdv.lo; have := hdv.lt; show B ≤ _; omega
  generalize D.flush = D1 at *
  generalize D.flushE = E1 at *
  clear hdw hdv hlow HD3 HL3w
  go_wp2_with fail
  refine (unhide HFL).mono ?_
  rintro e w4 ⟨rfl, hd4, hs4⟩
  have HD4 := hide hd4
  have HLW4 := hide ((unhide HLW).trans (hs4.below (unhide HDV) (unhide HSZ)))
  clear hd4 hs4 HFL HDV HLW HSZ
  go_upto_block 2 with fail
  go_cut [16] (fun _ wx => ∃ (D : Dev), DW 18 D ∧ DevAt B wx b D ∧ Below B w2 wx)
  case first =>
    go_wp2_with fail
    go_loopw [16] (fun i wr => ∃ (j : Nat) (D : Dev), j ≤ len3 ∧ j ≤ 4 ∧ i = .int .i64 j ∧ DW 18 D ∧ DevAt B wr b D ∧ Below B w2 wr) (fun i _ => 4 - (intOf i).toNat)
    case atStart => exact ⟨0, D1, Nat.zero_le _, Nat.zero_le _, rfl, (unhide HDW).mono (by omega), unhide HD4, unhide HLW4⟩
    case round =>
      obtain ⟨j, D, hj0, hj4, rfl, hdw, hdv, hlow⟩ := hrel
      clear HD4 HLW4 HDW
      have HDW := hide hdw
      have HDV := hide hdv
      have HLW := hide hlow
      have HSZ : Hid (B ≤ wr.heap.size) := by have := hdv.lo; have := hdv.lt; show B ≤ _; omega
      have hx3 := (hlow.block A (unhide HAB)).trans (unhide HX2)
      have p0 := bcell hx3 0
      have p1 := bcell hx3 1
      simp only [List.getElem?_toArray, List.getElem?_cons_zero, List.getElem?_cons_succ] at p0 p1
      by_cases hlt0 : j < len3
      · have i1 : (j : Int) < (len3 : Int) := by omega
        by_cases hlt4 : j < 4
        · have hjl : j < l3.length := by rw [unhide HL3]; exact hlt0
          obtain ⟨ao', c', e', hrow⟩ := (unhide HR3).later ((unhide HB2).trans (hlow.mono (unhide HWB)))
          injection e' with e1 e2 e3
          subst e1
          obtain ⟨bk, off, rfl, c0⟩ := hrow j hjl
          have hbkB : bk < B := by
            obtain ⟨ao2, c2, e2', hrow2⟩ := unhide HR3
            injection e2' with f1 f2 f3
            subst f1
            obtain ⟨bk2, off2, e4, c4⟩ := hrow2 j hjl
            injection e4 with e4
            injection e4 with e5 e6
            subst e5
            have := cell_lt c4
            have := unhide HWB
            omega
          have hAB := unhide HAB
          generalize l3[j]'hjl = y at *
          obtain ⟨q, hq1, hq2⟩ := w_and255 y ln (by omega)
          have hfq : (fr : Int) + (q : Int) = ((fr + q : Nat) : Int) := by omega
          obtain ⟨f, hf⟩ : ∃ f, fr + q = f := ⟨_, rfl⟩
          rw [hf] at hfq
          have i2 : (j : Int) < 4 := by omega
          have i3 : (0 : Int) ≤ (j : Int) := by omega
          have hnz : ((ln : Int) == 0) = false := by simp; omega
          have hnz2 : ¬ (ln : Int) = 0 := by omega
          have hnz4 : ¬ ln = 0 := by omega
          have hnz5 : (ln == 0) = false := by simp; omega
          have hnz3 : (0 : Int) < (ln : Int) := by omega
          have hwf : IntKind.i64.wrap (f : Int) = (f : Int) := by rw [IntKind.wrap_i64]; omega
          have hwq : IntKind.i64.wrap (q : Int) = (q : Int) := by rw [IntKind.wrap_i64]; omega
          have hY0 : 0 ≤ bits .and .i64 y 255 := by rw [pl_and_mask y 8 255 (by omega) (by decide)]; exact Int.emod_nonneg _ (by decide)
          have hY1 : bits .and .i64 y 255 ≤ 255 := by rw [pl_and_mask y 8 255 (by omega) (by decide)]; have := Int.emod_lt_of_pos y (b := ((2 ^ 8 : Nat) : Int)) (by decide); omega
          have hq3 : (bits .and .i64 y 255) % (ln : Int) = (q : Int) := by rw [← Int.tmod_eq_emod_of_nonneg hY0]; exact hq2
          have HSP := hide (fun wy (hy : DevAt B wy b D) => spoil_any hy (f : Int) [110, 111, 110, 101] (by rw [hdw.len]; omega))
          have HDS := hide (hdw.spoil f (by omega) [110, 111, 110, 101])
          generalize D.spoil (f : Int) [110, 111, 110, 101] = D' at *
          have hSn : S [110, 111, 110, 101] = ⟨#[110, 111, 110, 101]⟩ := rfl
          rw [hSn] at HSP
          clear hdw hdv hlow hx3 hrow e2 e3 hf hSn
          go_wp2_with fail
          go_region_held3 (fun w' => w'.cell? ⟨A, 0, none⟩ = some (.int .i64 (fr : Int)) ∧ w'.cell? ⟨A, 1, none⟩ = some (.int .i64 (ln : Int)) ∧ w'.cell? ⟨bk, off + j, none⟩ = some (.int .i64 y)) (go_keep)
            (first
              | (go_at_call 10; refine (unhide HSP _ ((unhide HDV).later (by exact (Below.refl _ _).drew)).1).mono ?_; rintro e w6 ⟨rfl, hd6, hs6⟩; have hbl6 := hs6.below ((unhide HDV).later (by exact (Below.refl _ _).drew)).1 (by exact unhide HSZ); have k0 : w6.cell? ⟨A, 0, none⟩ = some (.int .i64 (fr : Int)) := (hbl6.cell (p := ⟨A, 0, none⟩) hAB).trans p0; have k1 : w6.cell? ⟨A, 1, none⟩ = some (.int .i64 (ln : Int)) := (hbl6.cell (p := ⟨A, 1, none⟩) hAB).trans p1; have k2 : w6.cell? ⟨bk, off + j, none⟩ = some (.int .i64 y) := (hbl6.cell (p := ⟨bk, off + j, none⟩) hbkB).trans c0; have HE := hide (show DW 18 D' ∧ DevAt B w6 b D' ∧ Below B w2 w6 from ⟨unhide HDS, hd6, (unhide HLW).drew.trans hbl6⟩); clear hd6 hs6 hbl6)
              | fail)
          all_goals
            clear p0 p1 c0 k0 k1 k2
            go_wp2_with fail
            exact ⟨⟨j + 1, D', by omega, by omega, by simp, (unhide HE).1, (unhide HE).2.1, (unhide HE).2.2⟩, by simp [intOf]; omega⟩
        · have i2 : ¬ (j : Int) < 4 := by omega
          clear hdw hdv hlow hx3
          go_wp2_with fail
          go_meet
          case rel => exact ⟨D, unhide HDW, unhide HDV, unhide HLW⟩
      · have i1 : ¬ (j : Int) < (len3 : Int) := by omega
        clear hdw hdv hlow hx3
        go_wp2_with fail
        go_meet
        case rel => exact ⟨D, unhide HDW, unhide HDV, unhide HLW⟩
  case rest =>
  obtain ⟨D, hdw, hdv, hlow⟩ := hcut
  have hx3 := (hlow.block A (unhide HAB)).trans (unhide HX2)
  have p0 := bcell hx3 0
  have p1 := bcell hx3 1
  simp only [List.getElem?_toArray, List.getElem?_cons_zero, List.getElem?_cons_succ] at p0 p1
  have hAlt := block_lt hx3
  have HSZ : Hid (B ≤ wc.heap.size) := by have := hdv.lo; have := hdv.lt; show B ≤ _; omega
  have HSC := hide (scan_ok hdv fr ln x hln2 (by rw [hdw.len]; omega) (by rw [hdw.len]; omega) hdw.dn hdw.fine.cur (by omega) (by have := hdw.wl; omega))
  have HSE := hide (fun wy (hb : Below wc.heap.size wc wy) => wsectors_any (hdv.later hb).1 fr ln (by rw [hdw.len]; omega) (by rw [hdw.len]; omega) hdw.dn hdw.fine.cur (by have := hdw.wl; omega))
  have HRS := hide (fun (wy : World) (B2 : Nat) (v : Value) (h : wy.ownsRow B2 81 3 v ln (rcs ((secL D fr ln).map toR))) => rscan_any (secL D fr ln) x (by rw [secL_length]; exact h) (by rw [secL_length]; omega) (by rw [secL_length]; omega) hx1 (by omega) (fun s hs => by
    simp only [secL, List.mem_map] at hs
    obtain ⟨i, _, rfl⟩ := hs
    exact secOf_ok _))
  rw [secL_length, scan_list D fr ln x (by omega) hx1] at HRS
  have hrl : (Codec.scan (view D fr ln) ln x false [] x).1.length ≤ ln := scan_len ln x false [] x
  generalize Codec.scan (view D fr ln) ln x false [] x = sc at *
  obtain ⟨rs, en⟩ := sc
  dsimp only at HSC HRS hrl
  unfold AV at HSC HSE
  have HLW := hide hlow
  generalize rcs ((secL D fr ln).map toR) = SCELLS at *
  clear hdw hdv hlow hx3 HD4 HLW4 HDW
  go_wp2_with fail
  refine (unhide HSC).mono ?_
  rintro e w5 ⟨v5, rfl, ho5, hb5⟩
  have HO5 := hide ho5
  have HB5 := hide hb5
  have r0 := (hb5.cell (p := ⟨A, 0, none⟩) hAlt).trans p0
  have r1 := (hb5.cell (p := ⟨A, 1, none⟩) hAlt).trans p1
  obtain ⟨ao5, c5, rfl, _⟩ := ownsRow_slice ho5
  clear ho5 hb5 HSC p0 p1
  go_wp2_with fail
  refine (unhide HSE _ (unhide HB5)).mono ?_
  rintro e w6 ⟨v6, rfl, ho6, hb6⟩
  have HO6 := hide ho6
  have HB6 := hide ((unhide HB5).trans (hb6.mono (unhide HB5).size))
  have HO56 := hide (ownsRow_later (unhide HO5) hb6)
  clear ho6 hb6 HSE HB5 HO5 r0 r1
  go_wp2_with fail
  refine (unhide HRS _ _ _ (unhide HO6)).mono ?_
  rintro e w7 ⟨v7, rfl, ho7, hb7⟩
  have HO7 := hide ho7
  have HB7 := hide ((unhide HB6).trans (hb7.mono (unhide HB6).size))
  have HO57 := hide (ownsRow_later (unhide HO56) hb7)
  have HTO := hide (told3_any (unhide HO57) (unhide HO7) (by omega))
  obtain ⟨ao7, c7, rfl, _⟩ := ownsRow_slice ho7
  clear ho7 hb7 HRS HO6 HB6 HO56
  have b1 : ((en : Int) == (en : Int)) = true := by simp
  go_wp2_with fail
  refine (unhide HTO).mono ?_
  rintro e w8 ⟨rfl, hb8⟩
  have HB8 := hide ((unhide HB7).trans (hb8.mono (unhide HB7).size))
  have HFIN : Hid (Below w.heap.size w w8) := (unhide HB2).trans (((unhide HLW).trans ((unhide HB8).mono (unhide HSZ))).mono (unhide HWB))
  clear hb8 HTO HB7
  go_wp2_with fail
  go_ret
  exact ⟨rfl, unhide HFIN⟩

theorem walScans_walk (a0 : Int) (h0 : (Lit.int .i64 a0).wf = true) (a1 : Int) (h1 : (Lit.int .i64 a1).wf = true) {H : Type} {enc : TypeId × Value → H} {base b0 : Nat} {spare : Nat → Bool} {held : Bool} {r : Reach} {v : Value} {d : DataW H} {p : List MemPlace} (w : World)
    (hv : Value.okWide Tryz.prog w r b0 22 v) (hd : DataW.Trod enc Tryz.prog w base spare held 22 v d p) (a3 : Option Addr) (len3 cap3 : Nat) (z3 : List Int) (w3 : IsInts w a3 len3 cap3 z3) (a4 : Int) (h4 : (Lit.int .i64 a4).wf = true) :
    Calls Tryz.prog 3 #[.int .i64 a0, .int .i64 a1, v, .slice a3 len3 cap3, .int .i64 a4] w fun e w' => e = .returned (.bool true) ∧ Below w.heap.size w w' := by
  obtain ⟨a, len, cap, rfl, hl, ha⟩ := secs_open hv hd
  obtain ⟨l3, hl3, hm3, hc3, hr3⟩ := w3.norm
  exact wscans_any a0 a1 a len cap w hl ha a3 len3 cap3 l3 hl3 hm3 hr3 a4
end Go.Proofs.YtajcaglbbdbibaaGreatDoor
