/- Texts that this proof needs, one behind the other: WPlays, WPlays2. -/
import Derived.Test.YtajcaglbbdbibaaDoorBundleW6
import Derived.Test.YtajcaglbbdbibaaDoorBundleW9
import Derived.Test.YtajcaglbbdbibaaDoorBundleA10
import Derived.Test.YtajcaglbbdbibaaDoorBundleW7
import Derived.Deep.Strs
import Derived.Deep.DeepCutAuto
import Derived.Deep.CutBlock
import Derived.Deep.QuietTactic
import Derived.BigQuiet
/- WalPlays' walk. -/
namespace Go.Proofs.YtajcaglbbdbibaaDoor
open Go.RowKit Go.ChangeShapes Go.WideShapes
set_option linter.unusedVariables false
set_option maxRecDepth 100000

theorem info_prec : (Tryd.prog.info? 41).map (fun i => (i.zero, i.size, i.bytes)) = some (some (.agg #[.int .i64 0, .int .i64 0, .string ⟨#[]⟩]), 3, 32) := by kernel_rfl
theorem under_precs : Tryd.prog.underlying 31 = some (.slice 41) := by kernel_rfl
theorem prcs_snoc (l : List Codec.Rec) (r : Codec.Rec) : rcs (l ++ [r]) = rcs l ++ [.int .i64 (r.first : Int), .int .i64 (r.last : Int), .string (S r.text)] := by rw [rcs_append]; rfl
theorem pthree_one (a b : Int) (s : ByteArray) : ∀ u ∈ [Value.int .i64 a, .int .i64 b, .string s], u.oneCell' = true := by
  intro u hu
  simp at hu
  rcases hu with rfl | rfl | rfl <;> rfl

/- Calls that came in. -/
structure WAct (w : World) (a : Option Addr) (i : Nat) (kind n : Int) (s : List UInt8) : Prop where
  cells : ∃ b off, a = some ⟨b, off, none⟩ ∧ w.cell? ⟨b, off + i * 3, none⟩ = some (.int .i64 kind) ∧ w.cell? ⟨b, off + i * 3 + 1, none⟩ = some (.int .i64 n) ∧ w.cell? ⟨b, off + i * 3 + 2, none⟩ = some (.string (S s))
def WActs (w : World) (a : Option Addr) (len : Nat) : Prop := ∀ i, i < len → ∃ kind n s, WAct w a i kind n s
theorem wacts_open {H : Type} {enc : TypeId × Value → H} {W : World} {base b0 : Nat} {spare : Nat → Bool} {held : Bool} {r : Reach} {v : Value} {d : DataW H} {p : List MemPlace}
    (hv : Value.okWide Tryd.prog W r b0 22 v) (hd : DataW.Trod enc Tryd.prog W base spare held 22 v d p) :
    ∃ a len cap, v = .slice a len cap ∧ len ≤ maxLen ∧ WActs W a len := by
  obtain ⟨a, len, cap, rfl⟩ := okWide_slice Tryd.underlying22 hv
  obtain ⟨fuel, hf⟩ := hd
  have ce : Tryd.prog.cellsOf 34 = 3 := by kernel_rfl
  have hf' : DataW.trod enc Tryd.prog W base spare held fuel 22 [.slice a len cap] = some (d, p) := by simpa [Value.cells] using hf
  obtain ⟨hl, hm, hall⟩ := slice_structs Tryd.underlying22 (by rw [ce]; decide) hf'
  rw [ce] at hall
  refine ⟨a, len, cap, rfl, by omega, fun i hi => ?_⟩
  obtain ⟨b, off, cs, rfl, hlen, hcell, n, y, htr⟩ := hall i hi
  match cs, hlen with
  | [v0, v1, v2], _ =>
    obtain ⟨y0, y1, y2, m, _, _, t0, t1, t2⟩ := Go.Deep.trod_struct3 Tryd.underlying34 htr
    have c0 := hcell 0 (by omega)
    have c1 := hcell 1 (by omega)
    have c2 := hcell 2 (by omega)
    simp at c0 c1 c2
    have x3 : Tryd.prog.cellsOf 3 = 1 := by kernel_rfl
    have x9 : Tryd.prog.cellsOf 9 = 1 := by kernel_rfl
    simp [x3] at t0 t1
    simp [x9] at t2
    obtain ⟨k0, e0, _, w0⟩ := DataW.trod_int Tryd.underlying3 t0
    obtain ⟨k1, e1, _, w1⟩ := DataW.trod_int Tryd.underlying3 t1
    obtain ⟨k2, e2, _, w2⟩ := DataW.trod_string Tryd.underlying9 t2
    simp only [List.cons.injEq, and_true] at e0 e1 e2
    subst e0 e1 e2
    exact ⟨k0, k1, k2.data.toList, ⟨b, off, rfl, c0, c1, c2⟩⟩
theorem WAct.later {w w' : World} {a : Option Addr} {i : Nat} {kind n : Int} {s : List UInt8} (h : WAct w a i kind n s) (hb : Below w.heap.size w w') : WAct w' a i kind n s := by
  obtain ⟨⟨b, off, ha, c0, c1, c2⟩⟩ := h
  refine ⟨⟨b, off, ha, ?_, ?_, ?_⟩⟩
  · rw [hb.cell (p := ⟨b, off + i * 3, none⟩) (cell_lt c0)]; exact c0
  · rw [hb.cell (p := ⟨b, off + i * 3 + 1, none⟩) (cell_lt c1)]; exact c1
  · rw [hb.cell (p := ⟨b, off + i * 3 + 2, none⟩) (cell_lt c2)]; exact c2

structure WP (B : Nat) (w2 wr : World) (b lb fr ln x : Nat) (ts : List (List UInt8)) (head m : Nat) (D : Dev) (v : Value) : Prop where
  rd : RD fr ln x ts m D
  log : LogAt B wr b lb D fr ln head ((x + Codec.costs ts : Nat) : Int)
  low : Below B w2 wr
  row : wr.ownsRow B 41 3 v ts.length (rcs (Codec.recs x ts))
  far : Far wr b lb v
  hh : head ≤ x + Codec.costs ts
  hr : x + Codec.costs ts ≤ head + ln
  h1 : x ≤ head
section
variable {B : Nat} {w2 wr w' : World} {b lb fr ln x : Nat} {ts : List (List UInt8)} {head m : Nat} {D : Dev} {v : Value}
theorem WP.sz (h : WP B w2 wr b lb fr ln x ts head m D v) : B ≤ wr.heap.size := by have := h.log.dev.lo; have := h.log.dev.lt; omega
theorem WP.later (h : WP B w2 wr b lb fr ln x ts head m D v) (hb : Below wr.heap.size wr w') : WP B w2 w' b lb fr ln x ts head m D v := by
  obtain ⟨h1, h2⟩ := h.log.later hb
  obtain ⟨h3, h4⟩ := h.far.step h.row h2
  exact ⟨h.rd, h1, h.low.trans (hb.mono h.sz), h4, h3, h.hh, h.hr, h.h1⟩
theorem WP.mono (h : WP B w2 wr b lb fr ln x ts head m D v) {m' : Nat} (hm : m ≤ m') : WP B w2 wr b lb fr ln x ts head m' D v := ⟨h.rd.mono hm, h.log, h.low, h.row, h.far, h.hh, h.hr, h.h1⟩
/- The log took a step; the row is as it was. -/
theorem WP.step (h : WP B w2 wr b lb fr ln x ts head m D v) {D' : Dev} {head' m' : Nat} (hs : LStep b lb wr w') (hrd : RD fr ln x ts m' D') (hl : LogAt B w' b lb D' fr ln head' ((x + Codec.costs ts : Nat) : Int)) (h1 : head ≤ head') (h2 : head' ≤ x + Codec.costs ts) : WP B w2 w' b lb fr ln x ts head' m' D' v := by
  obtain ⟨h3, h4⟩ := h.far.step h.row hs
  have := h.hr
  have := h.h1
  exact ⟨hrd, hl, h.low.trans (hs.below h.log h.sz), h4, h3, h2, by omega, by omega⟩
end
end Go.Proofs.YtajcaglbbdbibaaDoor
/- WalPlays' walk: the rounds. -/
namespace Go.Proofs.YtajcaglbbdbibaaDoor
open Go.RowKit
set_option linter.unusedVariables false
set_option maxRecDepth 100000

theorem pr_add (a c : Nat) (h : a ≤ 1000000) (h2 : c ≤ 1000000) : IntKind.i64.wrap ((a : Int) + (c : Int)) = (a : Int) + (c : Int) ∧ wrap64 ((a : Int) + (c : Int)) = (a : Int) + (c : Int) := by
  refine ⟨by rw [IntKind.wrap_i64]; omega, by unfold wrap64; omega⟩
theorem pr_sub (a c n : Nat) (h : a ≤ 1000000) (h2 : c ≤ 1000000) (h3 : 1 ≤ c) (hn : a + c - 1 = n) : IntKind.i64.wrap ((a : Int) + (c : Int) - 1) = (n : Int) ∧ (a : Int) + (c : Int) - 1 = (n : Int) := by
  refine ⟨by rw [IntKind.wrap_i64]; omega, by omega⟩
theorem cell_three3 (w : World) (o1 o2 : Obj) (u v z : Value) (t : TypeId) (j : Nat) (x : Value) (h : [u, v, z][j]? = some x) : (((w.alloc o1).alloc o2).alloc (.cells #[u, v, z] t)).cell? ((⟨w.heap.size + 1 + 1, 0, none⟩ : Addr).add j) = some x := by
  have := cell_three_new ((w.alloc o1).alloc o2) u v z t j x h
  rw [World.size_alloc, World.size_alloc] at this
  exact this

theorem cell_three2 (w : World) (o1 : Obj) (u v z : Value) (t : TypeId) (j : Nat) (x : Value) (h : [u, v, z][j]? = some x) : ((w.alloc o1).alloc (.cells #[u, v, z] t)).cell? ((⟨w.heap.size + 1, 0, none⟩ : Addr).add j) = some x := by
  have := cell_three_new (w.alloc o1) u v z t j x h
  rw [World.size_alloc] at this
  exact this

set_option maxRecDepth 100000 in
set_option maxHeartbeats 6400000 in
theorem wplays_any (a0 a1 a2 : Int) (a : Option Addr) (len cap : Nat) (w : World) (hlen : len ≤ maxLen) (hacts : WActs w a len) :
    Calls Tryd.prog 3 #[.int .i64 a0, .int .i64 a1, .int .i64 a2, .slice a len cap] w fun e w' => e = .returned (.bool true) ∧ Below w.heap.size w w' := by
  unfold maxLen at hlen
  obtain ⟨i0, hi, hz0, hz1, hz2'⟩ := info_parts info_prec
  have HACTS := hide hacts
  obtain ⟨z, hze, hz2⟩ : ∃ z : Nat, bits .and .i64 a2 65535 = (z : Int) ∧ z ≤ 65535 := ⟨(a2 % 65536).toNat, by rw [pl_and_mask a2 16 65535 (by omega) (by decide)]; omega, by omega⟩
  obtain ⟨x, hx⟩ : ∃ x, 1 + z = x := ⟨_, rfl⟩
  have hxe : 1 + (z : Int) = (x : Int) := by omega
  have hx1 : 1 ≤ x := by omega
  have hx2 : x ≤ 65536 := by omega
  have HAW := hide (fun w => wawake_any w)
  have HARE := hide (fun w => warea_any a0 a1 w)
  have HBG := hide (fun fr ln wy (h1 : fr ≤ 7) (h2 : 2 ≤ ln) (h3 : ln ≤ 17) => begin_log ((fr : Nat) : Int) ((ln : Nat) : Int) (x : Int) wy (by omega) (by unfold areaE; rw [if_neg (by simp [Dev.new]; omega)]) (by omega) (by omega))
  unfold AV at HBG
  clear hacts hx
  go_enter Tryd.func3, Tryd.ntmps3
  go_wp2_with fail
  refine (unhide HAW _).mono ?_
  rintro e w1 ⟨rfl, hb1⟩
  have HB1 := hide hb1
  obtain ⟨fr, ln, hfr, hln2, hln17, har⟩ := unhide HARE w1
  have HAR := hide har
  clear hb1 HAW har HARE
  go_wp2_with fail
  refine (unhide HAR).mono ?_
  rintro e w1 ⟨rfl, hb1⟩
  obtain ⟨w2, hw2⟩ : ∃ w2, w1.alloc (.cells #[.int .i64 (fr : Int), .int .i64 (ln : Int)] 25) = w2 := ⟨_, rfl⟩
  obtain ⟨A, hA⟩ : ∃ A, w1.heap.size = A := ⟨_, rfl⟩
  have hb11 := (unhide HB1).trans (hb1.mono (unhide HB1).size)
  have hb12 : Below w.heap.size w w2 := by rw [← hw2]; exact hb11.alloc hb11.size _
  have hx2' : w2.heap[A]? = some (.cells #[.int .i64 (fr : Int), .int .i64 (ln : Int)] 25 (0, 0)) := by rw [← hw2, ← hA]; exact heap_alloc_new w1 _
  have p0 := bcell hx2' 0
  have p1 := bcell hx2' 1
  simp only [List.getElem?_toArray, List.getElem?_cons_zero, List.getElem?_cons_succ] at p0 p1
  have HX2 := hide hx2'
  have HB2 := hide hb12
  clear hb1 hx2' hb12 hb11 HAR HB1
  go_wp2_with fail
  refine (unhide HBG fr ln _ hfr hln2 hln17).mono ?_
  rintro e w3 ⟨b, lb, rfl, hl3, hb3⟩
  obtain ⟨B, hB⟩ : ∃ B, w2.heap.size = B := ⟨_, rfl⟩
  rw [hB] at hl3 hb3
  have HAB : Hid (A < B) := by rw [← hB]; exact block_lt (unhide HX2)
  have HWB : Hid (w.heap.size ≤ B) := by rw [← hB]; exact (unhide HB2).size
  have HWP : Hid (WP B w2 w3 b lb fr ln x [] x 0 (Dev.new 24) (.slice none 0 0)) := ⟨RD.new fr ln x (by omega) (by omega), hl3, hb3, World.ownsRow_nil _ _ _ _, Far.nil, Nat.le_refl _, by simp [Codec.costs], Nat.le_refl _⟩
  clear hl3 hb3 HBG hw2 hA hB p0 p1
  go_wp2_with fail
  go_loopw [2, 13, 14, 15, 16, 17, 18, 19, 20, 21, 22, 23, 24, 26, 27, 28, 29, 30] (fun nx hd v i _ _ _ _ _ _ _ _ _ _ _ _ _ _ wr => ∃ (j : Nat) (ts : List (List UInt8)) (head m : Nat) (D : Dev), j ≤ len ∧ j ≤ 60 ∧ i = .int .i64 j ∧ nx = .int .i64 ((x + Codec.costs ts : Nat) : Int) ∧ hd = .int .i64 (head : Int) ∧ m ≤ 8 * j ∧ Codec.costs ts ≤ 7 * j ∧ ts.length ≤ j ∧ WP B w2 wr b lb fr ln x ts head m D v) (fun _ _ _ i _ _ _ _ _ _ _ _ _ _ _ _ _ _ _ => 60 - (intOf i).toNat)
  case atStart => exact ⟨0, [], x, 0, Dev.new 24, Nat.zero_le _, Nat.zero_le _, rfl, by simp [Codec.costs], rfl, Nat.le_refl _, by simp [Codec.costs], Nat.le_refl _, unhide HWP⟩
  case round =>
    obtain ⟨j, ts, head, m, D, hj0, hj60, rfl, rfl, rfl, hm, hcst, htl, hwp⟩ := hrel
    clear HWP
    have HWP := hide hwp
    by_cases hlt : j < len ∧ j < 60
    · obtain ⟨hlt0, hlt60⟩ := hlt
      obtain ⟨kind, n, s, hact⟩ := unhide HACTS j hlt0
      obtain ⟨⟨bk, off, rfl, c0, c1, c2⟩⟩ := hact.later ((unhide HB2).trans (hwp.low.mono (unhide HWB)))
      have i1 : (j : Int) < (len : Int) := by omega
      have i2 : (j : Int) < 60 := by omega
      have i3 : (0 : Int) ≤ (j : Int) := by omega
      have hx3 := (hwp.low.block A (unhide HAB)).trans (unhide HX2)
      have p0 := bcell hx3 0
      have p1 := bcell hx3 1
      simp only [List.getElem?_toArray, List.getElem?_cons_zero, List.getElem?_cons_succ] at p0 p1
      have hAlt := block_lt hx3
      have HCUT := hide (fun wy => dcut_any s 300 wy)
      obtain ⟨t, ht⟩ : ∃ t, s.take 300 = t := ⟨_, rfl⟩
      have ht300 : t.length ≤ 300 := by rw [← ht, List.length_take]; omega
      rw [ht] at HCUT
      obtain ⟨av, ac, rfl, _⟩ := ownsRow_slice hwp.row
      have hhh := hwp.hh
      have hhr := hwp.hr
      have hh1 := hwp.h1
      have HSZ := hide hwp.sz
      clear ht hact hx3 hwp
      go_wp2_with fail
      refine (unhide HCUT _).mono ?_
      rintro e w4 ⟨rfl, rfl⟩
      clear HCUT
      obtain ⟨N, hN⟩ : ∃ N, x + Codec.costs ts = N := ⟨_, rfl⟩
      rw [hN] at hhh hhr ⊢
      have HN := hide hN
      clear hN
      go_upto_block 2 with fail
      go_cut [2, 13, 14, 17, 18, 19, 20, 21, 22, 23] from 70 to 225 (fun nx hd v _ _ _ _ _ _ _ wx => ∃ (ts' : List (List UInt8)) (head' m' : Nat) (D' : Dev), nx = .int .i64 ((x + Codec.costs ts' : Nat) : Int) ∧ hd = .int .i64 (head' : Int) ∧ m' ≤ 8 * (j + 1) ∧ Codec.costs ts' ≤ 7 * (j + 1) ∧ ts'.length ≤ j + 1 ∧ WP B w2 wx b lb fr ln x ts' head' m' D' v)
      case first =>
        have hkind : kind = 1 ∨ kind = 2 ∨ kind = 3 ∨ (¬kind = 1 ∧ ¬kind = 2 ∧ ¬kind = 3) := by omega
        rcases hkind with rfl | rfl | rfl | ⟨k1, k2, k3⟩
        · have hsz : (S t).size = t.length := rfl
          have hcu : Codec.cost t.length ≤ 7 := Codec.cost_le _ _ (by omega) (by omega)
          have hcp := Codec.cost_pos t.length
          have HRC := hide (fun wy => refCost_any t.length wy (by omega))
          have hwp := unhide HWP
          have hcs : Codec.costs (ts ++ [t]) = Codec.costs ts + Codec.cost t.length := by rw [Codec.costs_append]; simp [Codec.costs]
          have hN := unhide HN
          by_cases hfit : N - head + Codec.cost t.length ≤ ln
          · obtain ⟨hrd, hput⟩ := hwp.rd.app t (by omega) (by omega) hx1 (by omega) (by omega)
            have hap := append_put (head := head) (x := x + Codec.costs ts) hwp.log t hwp.sz (by omega) (by omega) (by omega) (by omega) (by omega) (by omega) (by omega) (by rw [hwp.rd.lf]; omega) (by have := hwp.rd.cl; omega) (by have := hwp.rd.wl; omega)
            rw [hput, hN] at hap
            rw [hN] at hrd
            have HAPP := hide hap
            have HRD := hide hrd
            obtain ⟨c, hc⟩ : ∃ c, Codec.cost t.length = c := ⟨_, rfl⟩
            rw [hc] at hcs hcu hcp hfit HAPP HRC HRD
            obtain ⟨n2, hn2⟩ : ∃ n2, N + c - 1 = n2 := ⟨_, rfl⟩
            rw [hn2] at HAPP
            have HREC : Hid (Codec.recs x (ts ++ [t]) = Codec.recs x ts ++ [⟨N, n2, t⟩]) := by
              have := recs_snoc x ts t
              rw [hN, hc, hn2] at this
              exact this
            have HCS := hide hcs
            have f1 : (N : Int) - (head : Int) + (c : Int) ≤ (ln : Int) := by omega
            have e4 : (N : Int) + (c : Int) - 1 = (n2 : Int) := by omega
            have HE2 : Hid ((N : Int) + (c : Int) = ((x + Codec.costs (ts ++ [t]) : Nat) : Int)) := by show (N : Int) + (c : Int) = _; rw [hcs]; omega
            have b1 : ((N : Int) != (N : Int)) = false := by simp
            have b2 : ((n2 : Int) != (n2 : Int)) = false := by simp
            have hse : ((S t).toList == (S t).toList) = true := by simp
            have hNb : N ≤ 70000 := by omega
            generalize Dev.put fr ln t N D = D' at *
            clear hap hrd hput hwp hcs hc hn2 hN
            go_wp2_with fail
            refine (unhide HRC _).mono ?_
            rintro e w5 ⟨rfl, rfl⟩
            go_wp2_with fail
            refine (unhide HAPP).mono ?_
            rintro e w5 ⟨k1, _, k3⟩
            obtain ⟨rfl, hl5⟩ := k1 trivial
            obtain ⟨hfar5, hrow5⟩ := (unhide HWP).far.step (unhide HWP).row k3
            have HLOW5 := hide ((unhide HWP).low.trans (k3.below (unhide HWP).log (unhide HWP).sz))
            have HSZ5 : Hid (B ≤ w5.heap.size) := by have := hl5.dev.lo; have := hl5.dev.lt; show B ≤ _; omega
            have HL5 := hide hl5
            have HFAR5 := hide hfar5
            have HROW5 := hide hrow5
            clear k1 k3 hl5 hfar5 hrow5 HAPP HRC c0 c1 c2 p0 p1
            go_wp2_with (first | (at_builtin; refine wpList_append_fresh rfl _ _ 31 rfl B 41 i0 (.agg #[.int .i64 0, .int .i64 0, .string ⟨#[]⟩]) 3 32 under_precs hi hz0 hz1 hz2' rfl (by decide) _ _ _ rfl ((((unhide HROW5).alloc _).alloc _).alloc _) ⟨w5.heap.size + 1 + 1, 0, none⟩ 1 1 [.int .i64 (N : Int), .int .i64 (n2 : Int), .string (S t)] rfl rfl (cell_three3 _ _ _ _ _ _ _) ?c2 ?c3 ?c4 ?c5 ?_) | fail)
            case c2 => exact pthree_one _ _ _
            case c3 => unfold maxLen; omega
            case c4 => omega
            case c5 => have := unhide HSZ5; simp; omega
            intro v' w7 hown' hgrow hfresh
            have HWP7 : Hid (WP B w2 w7 b lb fr ln x (ts ++ [t]) head (m + c) D' v') := by
              have hbA : Below w5.heap.size w5 (((w5.alloc (.cells #[.int .i64 (N : Int), .int .i64 (n2 : Int), .string (S t)] 37)).alloc (.cells #[.int .i64 (N : Int), .int .i64 (n2 : Int), .string (S t)] 41)).alloc (.cells #[.int .i64 (N : Int), .int .i64 (n2 : Int), .string (S t)] 41)) := (((Below.refl _ _).alloc (Nat.le_refl _) _).alloc (by simp) _).alloc (by simp; omega) _
              obtain ⟨hlA, hsA⟩ := (unhide HL5).later hbA
              obtain ⟨hfarA, hrowA⟩ := (unhide HFAR5).step (unhide HROW5) hsA
              have hlowA := (unhide HLOW5).trans (hbA.mono (unhide HSZ5))
              have hnx : ((x + Codec.costs (ts ++ [t]) : Nat) : Int) = ((N + c : Nat) : Int) := by rw [unhide HCS, ← Nat.add_assoc, unhide HN]
              refine ⟨unhide HRD, by rw [hnx]; exact hlA.grown hgrow hfarA, hlowA.grown hgrow (by have := unhide HSZ5; simp; omega) (fun q hq => by obtain ⟨cur, hcc, hx⟩ := ownsRow_blk hrowA hq; exact hx), ?_, hfarA.grown hlA hgrow (by simpa using hfresh), ?_, ?_, hh1⟩
              · rw [unhide HREC, prcs_snoc, List.length_append]
                exact hown'
              · rw [unhide HCS]; have := unhide HN; omega
              · rw [unhide HCS]; have := unhide HN; omega
            obtain ⟨av', ac', rfl, _⟩ := ownsRow_slice hown'
            have e1' : (ts ++ [t]).length = ts.length + 1 := by simp
            rw [← e1'] at HWP7 ⊢
            clear hown' hgrow hfresh
            have HLL := hide e1'
            clear e1'
            go_wp2_with fail
            go_meet
            case rel => exact ⟨ts ++ [t], head, m + c, D', by rw [unhide HE2], rfl, by omega, by rw [unhide HCS]; omega, by rw [unhide HLL]; omega, unhide HWP7⟩
          · have hap := append_full (head := head) (x := x + Codec.costs ts) hwp.log t (by omega) (by omega) (by omega) (by omega) (by omega)
            have HAPP := hide hap
            unfold R0 at HAPP
            obtain ⟨c, hc⟩ : ∃ c, Codec.cost t.length = c := ⟨_, rfl⟩
            rw [hc] at hcu hcp hfit HRC
            have f1 : ¬ (N : Int) - (head : Int) + (c : Int) ≤ (ln : Int) := by omega
            have hNb : N ≤ 70000 := by omega
            have HNC := hide (show ((x + Codec.costs ts : Nat) : Int) = (N : Int) by rw [hN])
            clear hap hwp hcs hc hN
            go_wp2_with fail
            refine (unhide HRC _).mono ?_
            rintro e w5 ⟨rfl, rfl⟩
            go_wp2_with fail
            refine (unhide HAPP).mono ?_
            rintro e w6 ⟨rfl, hb6⟩
            have HWP6 := hide (fun o => ((unhide HWP).later hb6).later ((Below.refl _ _).alloc (Nat.le_refl _) o))
            clear hb6 HAPP HRC c0 c1 c2 p0 p1
            go_wp2_with fail
            go_meet
            case rel => exact ⟨ts, head, m, D, by rw [unhide HNC], rfl, by omega, by omega, by omega, unhide HWP6 _⟩
        · have hwp := unhide HWP
          have HNC := hide (show ((x + Codec.costs ts : Nat) : Int) = (N : Int) by rw [unhide HN])
          have hrd := hwp.rd.flush (by omega) (by omega)
          obtain ⟨e1, e2, e3, e4, e5, e6⟩ := flush_shape D hwp.rd.out
          have HFO := hide (force_any hwp.log hwp.rd.fine.ok (by rw [hwp.rd.lf]; omega) (by have := hwp.rd.cl; omega) (by have := hwp.rd.wl; omega) (by rw [hwp.rd.len]; omega))
          rw [e6] at HFO
          have HLO := hide (fun wy (hd : DevAt B wy b D.flush) => loose_any hd)
          rw [e2] at HLO
          have HRD := hide hrd
          generalize D.flush = D' at *
          clear hwp hrd e1 e2 e3 e4 e5 e6 c1 c2
          go_wp2_with fail
          refine (unhide HFO).mono ?_
          rintro e w5 ⟨rfl, hl5, hs5⟩
          have HWP5 := hide ((unhide HWP).step hs5 (unhide HRD) hl5 (Nat.le_refl _) (by have := unhide HN; omega))
          clear hl5 hs5 HFO c0 p0 p1
          go_wp2_with fail
          refine (unhide HLO _ (unhide HWP5).log.dev).mono ?_
          rintro e w6 ⟨rfl, rfl⟩
          go_wp2_with fail
          go_meet
          case rel => exact ⟨ts, head, m + 1, D', by rw [unhide HNC], rfl, by omega, by omega, by omega, unhide HWP5⟩
        · have hwp := unhide HWP
          have HNC := hide (show ((x + Codec.costs ts : Nat) : Int) = (N : Int) by rw [unhide HN])
          obtain ⟨y, hy, hy2⟩ : ∃ y : Nat, bits .and .i64 n 15 = (y : Int) ∧ y ≤ 15 := ⟨(n % 16).toNat, by rw [pl_and_mask n 4 15 (by omega) (by decide)]; omega, by omega⟩
          have hNb : N ≤ 70000 := by have := unhide HN; omega
          have hlg := hwp.log
          rw [unhide HN] at hlg
          by_cases hgood : 1 ≤ y ∧ head + y - 1 ≤ N
          · obtain ⟨h', hh'⟩ : ∃ h', head + y - 1 = h' := ⟨_, rfl⟩
            have e4 : (head : Int) + (y : Int) - 1 = (h' : Int) := by omega
            have g1 : (head : Int) ≤ (h' : Int) := by omega
            have g2 : (h' : Int) ≤ (N : Int) := by omega
            have HTR := hide (trim_ok hlg.log (h' : Int) (by omega) (by omega))
            obtain ⟨hl5, hs5⟩ := hwp.log.setHead (h' : Int)
            have HWP5 := hide (hwp.step hs5 hwp.rd hl5 (by omega) (by have := unhide HN; omega))
            clear hwp hlg hl5 hs5 hh' hgood c2
            go_wp2_with fail
            refine (unhide HTR).mono ?_
            rintro e w5 ⟨rfl, rfl⟩
            clear c0 c1 p0 p1
            go_wp2_with fail
            go_meet
            case rel => exact ⟨ts, h', m, D, by rw [unhide HNC], rfl, by omega, by omega, by omega, unhide HWP5⟩
          · have hbad : (head : Int) + (y : Int) - 1 < (head : Int) ∨ ((head : Int) ≤ (head : Int) + (y : Int) - 1 ∧ (N : Int) < (head : Int) + (y : Int) - 1) := by omega
            obtain ⟨q, hq⟩ : ∃ q : Int, (head : Int) + (y : Int) - 1 = q := ⟨_, rfl⟩
            rw [hq] at hbad
            have HTR := hide (trim_no hlg.log q (by omega))
            clear hwp hlg hgood c2
            rcases hbad with hb | ⟨hb1, hb2⟩
            all_goals
              go_wp2_with fail
              refine (unhide HTR).mono ?_
              rintro e w5 ⟨rfl, rfl⟩
              clear c0 c1 p0 p1
              go_wp2_with fail
              go_meet
              case rel => exact ⟨ts, head, m, D, by rw [unhide HNC], rfl, by omega, by omega, by omega, unhide HWP⟩
        · have HNC := hide (show ((x + Codec.costs ts : Nat) : Int) = (N : Int) by rw [unhide HN])
          go_wp2_with fail
          go_meet
          case rel => exact ⟨ts, head, m, D, by rw [unhide HNC], rfl, by omega, by omega, by omega, unhide HWP⟩
      case rest =>
      obtain ⟨ts', head', m', D', rfl, rfl, hm', hcst', htl', hwp'⟩ := hcut
      have hx3 := (hwp'.low.block A (unhide HAB)).trans (unhide HX2)
      clear p0 p1 c0 c1 c2 HWP
      have p0 := bcell hx3 0
      have p1 := bcell hx3 1
      simp only [List.getElem?_toArray, List.getElem?_cons_zero, List.getElem?_cons_succ] at p0 p1
      have hA2 := block_lt hx3
      obtain ⟨M, hM⟩ : ∃ M, x + Codec.costs ts' = M := ⟨_, rfl⟩
      have hq1 := hwp'.hh
      have hq2 := hwp'.hr
      have hq3 := hwp'.h1
      have hlg := hwp'.log
      rw [hM] at hq1 hq2 hlg ⊢
      have hMb : M ≤ 70000 := by omega
      have HHD := hide (fun q => head_any (w := wc.drewN q) hlg.log)
      have HNX := hide (fun q => next_any (w := wc.drewN q) hlg.log)
      have HFR := hide (fun q => free_any (w := wc.drewN q) hlg.log (by omega) (by omega) (by omega) (by omega) (by omega))
      obtain ⟨y, hy⟩ : ∃ y : Nat, ln - (M - head') = y := ⟨_, rfl⟩
      have g1 : (M : Int) - (head' : Int) = ((M - head' : Nat) : Int) := by omega
      obtain ⟨mh, hmh⟩ : ∃ mh, M - head' = mh := ⟨_, rfl⟩
      rw [hmh] at g1
      have g2 : (ln : Int) - (mh : Int) = (y : Int) := by omega
      have g3 : IntKind.i64.wrap (mh : Int) = (mh : Int) := by rw [IntKind.wrap_i64]; omega
      have g4 : IntKind.i64.wrap (y : Int) = (y : Int) := by rw [IntKind.wrap_i64]; omega
      rw [g1, g2] at HFR
      have b1 : ((head' : Int) != (head' : Int)) = false := by simp
      have b2 : ((M : Int) != (M : Int)) = false := by simp
      have b3 : ((y : Int) != (y : Int)) = false := by simp
      have HWP := hide hwp'
      have HM := hide hM
      obtain ⟨av2, ac2, rfl, _⟩ := ownsRow_slice hwp'.row
      clear hwp' hx3 hlg hM hy hmh
      go_wp2_with fail
      go_quiet (first | (go_at_call 15; exact Calls.quiet_of_same (unhide HHD _)) | (go_at_call 16; exact Calls.quiet_of_same (unhide HNX _)) | (go_at_call 17; exact Calls.quiet_of (unhide HFR _)))
      have HWP5 := hide ((unhide HWP).later (w_below_drewN (Below.refl _ _) nq))
      have p0' : (wc.drewN nq).cell? ⟨A, 0, none⟩ = some (.int .i64 (fr : Int)) := p0
      have p1' : (wc.drewN nq).cell? ⟨A, 1, none⟩ = some (.int .i64 (ln : Int)) := p1
      have hA3 : A < (wc.drewN nq).heap.size := hA2
      obtain ⟨F, hF⟩ : ∃ F : Nat → List Codec.Rec, ∀ k, F k = ((Codec.recs x ts').take k).filter (fun r => decide (head' ≤ r.first)) := ⟨_, fun k => rfl⟩
      have HF := hide hF
      generalize wc.drewN nq = w5 at *
      clear HHD HNX HFR b1 b2 b3 g1 g2 g3 g4 p0 p1 hA2 HWP hF
      go_wp2_with fail
      go_loopw [24, 26, 184] (fun v _ i wr => ∃ k : Nat, k ≤ ts'.length ∧ i = .int .i64 k ∧ (F k).length ≤ k ∧ wr.ownsRow w5.heap.size 41 3 v (F k).length (rcs (F k)) ∧ Below w5.heap.size w5 wr) (fun _ _ i _ => ts'.length - (intOf i).toNat)
      case atStart => exact ⟨0, Nat.zero_le _, rfl, by rw [unhide HF]; simp, by rw [unhide HF]; exact World.ownsRow_nil _ _ _ _, Below.refl _ _⟩
      case round =>
        obtain ⟨k, hk, rfl, hfk, hown, hbw⟩ := hrel
        have HOWN := hide hown
        have HBW := hide hbw
        obtain ⟨fv, fc, rfl, _⟩ := ownsRow_slice hown
        by_cases hkt : k < ts'.length
        · have hkr : k < (Codec.recs x ts').length := by rw [Codec.recs_length]; exact hkt
          have hra := ownsRow_later (unhide HWP5).row hbw
          obtain ⟨_, _, ea, hga⟩ := ownsRow_slice hra
          injection ea with ea1 ea2 ea3
          obtain ⟨ga, hga'⟩ := hga (by omega)
          rw [← ea1] at hga'
          subst hga'
          obtain ⟨y0, y1, y2⟩ := rec3_cells hra k hkr
          have HNXT : Hid (F (k + 1) = F k ++ if head' ≤ ((Codec.recs x ts')[k]'hkr).first then [(Codec.recs x ts')[k]'hkr] else []) := by
            show F (k + 1) = _
            rw [unhide HF, unhide HF, List.take_succ_eq_append_getElem hkr, List.filter_append]
            congr 1
            by_cases hp : head' ≤ ((Codec.recs x ts')[k]'hkr).first
            · rw [if_pos hp, List.filter_cons_of_pos (by simpa using hp)]; rfl
            · rw [if_neg hp, List.filter_cons_of_neg (by simpa using hp)]; rfl
          generalize (Codec.recs x ts')[k]'hkr = r at *
          have j1 : (k : Int) < (ts'.length : Int) := by omega
          have j3 : (0 : Int) ≤ (k : Int) := by omega
          clear hown hbw hra ea1 ea2 ea3 hga hkr
          by_cases hp : head' ≤ r.first
          · have hpi : (head' : Int) ≤ (r.first : Int) := by omega
            have HN2 := unhide HNXT
            rw [if_pos hp] at HN2
            replace HN2 := hide HN2
            clear HNXT
            go_wp2_with (first | (at_builtin; refine wpList_append_fresh rfl _ _ 31 rfl w5.heap.size 41 i0 (.agg #[.int .i64 0, .int .i64 0, .string ⟨#[]⟩]) 3 32 under_precs hi hz0 hz1 hz2' rfl (by decide) _ _ _ rfl (((unhide HOWN).alloc _).alloc _) ⟨wr.heap.size + 1, 0, none⟩ 1 1 [.int .i64 (r.first : Int), .int .i64 (r.last : Int), .string (S r.text)] rfl rfl (cell_three2 _ _ _ _ _ _) ?c2 ?c3 ?c4 ?c5 ?_) | fail)
            case c2 => exact pthree_one _ _ _
            case c3 => unfold maxLen; omega
            case c4 => omega
            case c5 => have := (unhide HBW).size; simp; omega
            intro v' w7 hown' hgrow hfresh
            have HO7 : Hid (w7.ownsRow w5.heap.size 41 3 v' (F (k + 1)).length (rcs (F (k + 1)))) := by
              show World.ownsRow _ _ _ _ _ _ _
              rw [unhide HN2, prcs_snoc, List.length_append]
              exact hown'
            have HB7 : Hid (Below w5.heap.size w5 w7) := (((unhide HBW).alloc (unhide HBW).size _).alloc (by have := (unhide HBW).size; simp; omega) _).grown hgrow (by have := (unhide HBW).size; simp; omega) (fun q hq => ((((unhide HOWN).alloc (.cells #[] 0)).alloc (.cells #[] 0)).lt q hq).1)
            have HL7 : Hid ((F (k + 1)).length ≤ k + 1) := by show (F (k + 1)).length ≤ k + 1; rw [unhide HN2, List.length_append]; simp; omega
            clear hown' hgrow hfresh y0 y1 y2
            go_wp2_with fail
            exact ⟨⟨k + 1, by omega, by simp, unhide HL7, unhide HO7, unhide HB7⟩, by simp [intOf]; omega⟩
          · have hpi : ¬ (head' : Int) ≤ (r.first : Int) := by omega
            have HN2 := unhide HNXT
            rw [if_neg hp, List.append_nil] at HN2
            replace HN2 := hide HN2
            clear HNXT
            go_wp2_with fail
            exact ⟨⟨k + 1, by omega, by simp, by rw [unhide HN2]; omega, by rw [unhide HN2]; exact (unhide HOWN).alloc _, (unhide HBW).alloc (unhide HBW).size _⟩, by simp [intOf]; omega⟩
        · have hkk : k = ts'.length := by omega
          subst hkk
          obtain ⟨q, hq, hqf, hqh⟩ := recs_from ts' x head'
          have hFe : F ts'.length = Codec.recs (x + Codec.costs (ts'.take q)) (ts'.drop q) := by
            rw [unhide HF, List.take_of_length_le (by rw [Codec.recs_length]; exact Nat.le_refl _)]
            exact hqf
          have hcd := costs_drop ts' q
          have hwp5 := unhide HWP5
          have hM := unhide HM
          have hfit : Codec.costs (ts'.drop q) ≤ ln := by
            by_cases hql : q < ts'.length
            · have := hqh hql
              omega
            · rw [List.drop_of_length_le (by omega)]; simp [Codec.costs]
          have hscan := hwp5.rd.scan q hx1 (by omega) hfit
          obtain ⟨st, hst⟩ : ∃ st, x + Codec.costs (ts'.take q) = st := ⟨_, rfl⟩
          rw [hst] at hscan hFe
          rw [hM] at hscan
          have hdl : (Codec.recs st (ts'.drop q)).length = ts'.length - q := by rw [Codec.recs_length, List.length_drop]
          have hstM : ¬ q < ts'.length → st = M := fun h => by
            rw [← hst, List.take_of_length_le (by omega)]; exact hM
          have hst0 : q < ts'.length → ∀ h, ((Codec.recs st (ts'.drop q))[0]'h).first = st := fun h h0 => by
            have hg := recs_get (ts'.drop q) st 0 (by rw [List.length_drop]; omega)
            rw [List.getElem?_eq_getElem h0] at hg
            rw [Option.some.inj hg]
            simp [Codec.costs]
          have hdv := (hwp5.log.dev.later hbw).1
          have hD24 := hwp5.rd.len
          have HSC := hide (scan_ok hdv fr ln st hln2 (by rw [hD24]; omega) (by rw [hD24]; omega) hwp5.rd.dn hwp5.rd.fine.cur (by omega) (by have := hwp5.rd.wl; omega))
          rw [hscan] at HSC
          dsimp only at HSC
          unfold AV at HSC
          rw [hFe] at hown
          have HFIN := hide (fun w9 (hb : Below w5.heap.size w5 w9) => hwp5.later hb)
          have HO := hide hown
          have HFL : Hid ((F ts'.length).length = ts'.length - q) := by show (F ts'.length).length = _; rw [hFe]; exact hdl
          have HMC := hide (show ((x + Codec.costs ts' : Nat) : Int) = (M : Int) by rw [hM])
          have r0 := (hbw.cell (p := ⟨A, 0, none⟩) hA3).trans p0'
          have r1 := (hbw.cell (p := ⟨A, 1, none⟩) hA3).trans p1'
          obtain ⟨nf, hnf⟩ : ∃ nf, (F ts'.length).length = nf := ⟨_, rfl⟩
          rw [hnf] at hfk HFL ⊢
          rw [hdl] at hown HO
          have hnfq : nf = ts'.length - q := unhide HFL
          rw [← hnfq] at hown HO hdl
          have b1 : ((M : Int) != (M : Int)) = false := by simp
          have HTO := hide (fun w9 v9 B9 (hb : Below wr.heap.size wr w9) (h9 : w9.ownsRow B9 37 3 v9 nf (rcs (Codec.recs st (ts'.drop q)))) => told3_any (l := Codec.recs st (ts'.drop q)) (v1 := v9) (by rw [hdl]; exact h9) (by rw [hdl]; exact ownsRow_later hown hb) (by rw [hdl]; omega))
          have hcut : st ≤ 100000 := by omega
          by_cases hql : q < ts'.length
          · have hnf0 : 0 < nf := by omega
            obtain ⟨_, _, ee, hgg⟩ := ownsRow_slice hown
            injection ee with ee1 ee2 ee3
            obtain ⟨gf, hgf⟩ := hgg (by omega)
            rw [← ee1] at hgf
            subst hgf
            have z0 := (rec3_cells hown 0 (by rw [hdl]; exact hnf0)).1
            rw [hst0 hql] at z0
            rw [Nat.zero_mul] at z0
            have f1 : (0 : Int) < (nf : Int) := by omega
            rw [hdl] at HSC
            clear hown hbw hdv hD24 hscan hFe hcd hfit hst hdl hstM hst0 hqf hqh hwp5 hM hnf hnfq ee1 ee2 ee3 hgg p0' p1'
            go_wp2_with fail
            refine (unhide HSC).mono ?_
            rintro e w8 ⟨v8, rfl, ho8, hb8⟩
            have HT8 := hide (unhide HTO w8 v8 _ hb8 ho8)
            have HB8 := hide ((unhide HBW).trans (hb8.mono (unhide HBW).size))
            obtain ⟨a8, c8, rfl, _⟩ := ownsRow_slice ho8
            clear ho8 hb8 HSC HTO r0 r1 z0
            go_wp2_with fail
            refine (unhide HT8).mono ?_
            rintro e w9 ⟨rfl, hb9⟩
            have HW9 := hide (unhide HFIN w9 ((unhide HB8).trans (hb9.mono (unhide HB8).size)))
            clear hb9 HT8
            go_wp2_with fail
            exact ⟨⟨j + 1, ts', head', m', D', by omega, by omega, by simp, by rw [unhide HMC], rfl, by omega, by omega, by omega, unhide HW9⟩, by simp [intOf]; omega⟩
          · have hsm := hstM hql
            subst hsm
            have hnf0 : nf = 0 := by omega
            subst hnf0
            rw [hdl] at HSC
            clear hown hbw hdv hD24 hscan hFe hcd hfit hst hdl hstM hst0 hqf hqh hwp5 hM hnf hnfq p0' p1'
            go_wp2_with fail
            refine (unhide HSC).mono ?_
            rintro e w8 ⟨v8, rfl, ho8, hb8⟩
            have HT8 := hide (unhide HTO w8 v8 _ hb8 ho8)
            have HB8 := hide ((unhide HBW).trans (hb8.mono (unhide HBW).size))
            obtain ⟨a8, c8, rfl, _⟩ := ownsRow_slice ho8
            clear ho8 hb8 HSC HTO r0 r1
            go_wp2_with fail
            refine (unhide HT8).mono ?_
            rintro e w9 ⟨rfl, hb9⟩
            have HW9 := hide (unhide HFIN w9 ((unhide HB8).trans (hb9.mono (unhide HB8).size)))
            clear hb9 HT8
            go_wp2_with fail
            exact ⟨⟨j + 1, ts', head', m', D', by omega, by omega, by simp, by rw [unhide HMC], rfl, by omega, by omega, by omega, unhide HW9⟩, by simp [intOf]; omega⟩
    · have hor : len ≤ j ∨ (j < len ∧ 60 ≤ j) := by omega
      have HFIN : Hid (Below w.heap.size w wr) := (unhide HB2).trans (hwp.low.mono (unhide HWB))
      obtain ⟨av, ac, rfl, _⟩ := ownsRow_slice hwp.row
      clear hwp hlt
      rcases hor with h1 | ⟨h1, h2⟩
      all_goals
        go_wp2_with fail
        go_ret
        exact ⟨rfl, unhide HFIN⟩

theorem walPlays_walk (a0 : Int) (h0 : (Lit.int .i64 a0).wf = true) (a1 : Int) (h1 : (Lit.int .i64 a1).wf = true) (a2 : Int) (h2 : (Lit.int .i64 a2).wf = true) {H : Type} {enc : TypeId × Value → H} {base b0 : Nat} {spare : Nat → Bool} {held : Bool} {r : Reach} {v : Value} {d : DataW H} {p : List MemPlace} (w : World)
    (hv : Value.okWide Tryd.prog w r b0 22 v) (hd : DataW.Trod enc Tryd.prog w base spare held 22 v d p) :
    Calls Tryd.prog 3 #[.int .i64 a0, .int .i64 a1, .int .i64 a2, v] w fun e w' => e = .returned (.bool true) ∧ Below w.heap.size w w' := by
  obtain ⟨a, len, cap, rfl, hl, ha⟩ := wacts_open hv hd
  exact wplays_any a0 a1 a2 a len cap w hl ha
end Go.Proofs.YtajcaglbbdbibaaDoor
