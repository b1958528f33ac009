/- WalResume's walk. -/
import Derived.Test.YtbmhmljbpjimoaaDoorBundleW7
import Derived.Test.YtbmhmljbpjimoaaDoorBundleD8
import Derived.Deep.DeepCutAuto
import Derived.Deep.CutBlock
namespace Go.Proofs.YtbmhmljbpjimoaaDoor
open Go.RowKit
set_option linter.unusedVariables false
set_option maxRecDepth 100000

theorem append_step {base : Nat} {w : World} {b lb : Nat} {D : Dev} {fr ln x must : Nat} {ts : List (List UInt8)} (hp : PD fr ln x ts must D) (h : LogAt base w b lb D fr ln x ((x + Codec.costs ts : Nat) : Int)) (t : List UInt8) (hB : base ≤ w.heap.size) (ht : t.length ≤ 1000) (hl : 0 < ln) (hfl : fr + ln ≤ 24) (hx : 1 ≤ x) (hx2 : x + ln ≤ 1099511627776) :
    Calls Tryd.prog 6 #[.pointer (some ⟨lb, 0, none⟩), .string (S t)] w fun e w' => ∃ (er r0 r1 : Int) (rt : ByteArray) (ts' : List (List UInt8)) (D' : Dev), e = .returned (.tuple #[.agg #[.int .i64 r0, .int .i64 r1, .string rt], .int .i64 er]) ∧ PD fr ln x ts' must D' ∧ LogAt base w' b lb D' fr ln x ((x + Codec.costs ts' : Nat) : Int) ∧ D'.calls + Codec.costs ts = D.calls + Codec.costs ts' ∧ Below base w w' := by
  refine (append_law hp h t hB ht hl hfl hx hx2).mono ?_
  rintro e w' ⟨er, r0, r1, rt, rfl, hst, ho⟩
  have hcs : Codec.costs (ts ++ [t]) = Codec.costs ts + Codec.cost t.length := by rw [Codec.costs_append]; simp [Codec.costs]
  rcases ho with ⟨_, _, _, _, _, h1, h2⟩ | ⟨_, _, _, _, _, h2⟩
  · exact ⟨er, r0, r1, rt, ts ++ [t], _, rfl, h1, h2, by show D.calls + Codec.cost t.length + _ = _; omega, hst.below h hB⟩
  · exact ⟨er, r0, r1, rt, ts, D, rfl, hp, h2, rfl, hst.below h hB⟩
theorem begin_pd (fr ln x : Nat) (hl : 0 < ln) (hfl : fr + ln ≤ 24) : PD fr ln x [] 0 (Dev.new 24) :=
  PD.start rfl rfl rfl (by simp [Dev.new]) (Fine.new 24 (by omega)) rfl (by simp [Dev.new]) (fun a h1 h2 c hc => by rw [new_can 24 _ c hc]; exact bad_blank a)

theorem rcs_get : ∀ (a : List Codec.Rec) (k : Nat) (h : k < a.length), (rcs a)[k * 3]? = some (.int .i64 ((a[k]'h).first : Int)) ∧ (rcs a)[k * 3 + 1]? = some (.int .i64 ((a[k]'h).last : Int)) ∧ (rcs a)[k * 3 + 2]? = some (.string (S (a[k]'h).text))
  | x :: r, 0, h => by simp [rcs]
  | x :: r, k + 1, h => by
    have := rcs_get r k (by simpa using h)
    have e : (k + 1) * 3 = k * 3 + 1 + 1 + 1 := by omega
    rw [e]
    simpa [rcs] using this
theorem rec_cells {w : World} {base g n c : Nat} {l : List Codec.Rec} (h : w.ownsRow base 32 3 (.slice (some ⟨g, 0, none⟩) n c) n (rcs l)) (k : Nat) (hk : k < l.length) :
    w.cell? ⟨g, k * 3, none⟩ = some (.int .i64 ((l[k]'hk).first : Int)) ∧ w.cell? ⟨g, k * 3 + 1, none⟩ = some (.int .i64 ((l[k]'hk).last : Int)) ∧ w.cell? ⟨g, k * 3 + 2, none⟩ = some (.string (S (l[k]'hk).text)) := by
  obtain ⟨h1, h2, h3⟩ := rcs_get l k hk
  exact ⟨ownsRow_cell h rfl _ _ h1, ownsRow_cell h rfl _ _ h2, ownsRow_cell h rfl _ _ h3⟩
theorem len_costs (ts : List (List UInt8)) : ts.length ≤ Codec.costs ts := by
  induction ts with
  | nil => exact Nat.le_refl _
  | cons t r ih => have := Codec.cost_pos t.length; simp [Codec.costs]; omega
theorem recs_snoc (x : Nat) (us : List (List UInt8)) (t : List UInt8) : Codec.recs x (us ++ [t]) = Codec.recs x us ++ [⟨x + Codec.costs us, x + Codec.costs us + Codec.cost t.length - 1, t⟩] := by
  rw [Codec.recs_append]; rfl
theorem recs_pre (us : List (List UInt8)) (x k i : Nat) (h : i < (us.take k).length) (h2 : i < us.length) : (Codec.recs x (us.take k))[i]'(by rw [Codec.recs_length]; exact h) = (Codec.recs x us)[i]'(by rw [Codec.recs_length]; exact h2) := by
  have e1 := recs_get (us.take k) x i h
  have e2 := recs_get us x i h2
  have hik : i < k := by rw [List.length_take] at h; omega
  rw [List.take_take, Nat.min_eq_left (by omega), List.getElem_take] at e1
  rw [← e2] at e1
  rw [List.getElem?_eq_getElem (by rw [Codec.recs_length]; exact h), List.getElem?_eq_getElem (by rw [Codec.recs_length]; exact h2)] at e1
  exact Option.some.inj e1

theorem w_mask2 (n : Int) (k : Nat) (m : Int) (hk : k < 63) (hm : (BitVec.ofInt 64 m).toNat = 2 ^ k - 1) : bits .and .i64 n m = n % (2 ^ k : Nat) := by
  have key : (BitVec.ofInt 64 n &&& BitVec.ofInt 64 m).toNat = (n % ((2 ^ 64 : Nat) : Int)).toNat % 2 ^ k := by
    rw [BitVec.toNat_and, BitVec.toNat_ofInt, hm, Nat.and_two_pow_sub_one_eq_mod]
  show IntKind.i64.wrap ((BitVec.ofInt 64 n &&& BitVec.ofInt 64 m).toNat : Nat) = n % (2 ^ k : Nat)
  have hlt : (n % ((2 ^ 64 : Nat) : Int)).toNat % 2 ^ k < 2 ^ 63 := Nat.lt_trans (Nat.mod_lt _ (Nat.two_pow_pos k)) (Nat.pow_lt_pow_right (by omega) hk)
  rw [key, IntKind.wrap_i64]
  have hd : (2 ^ 64 : Nat) = 2 ^ k * 2 ^ (64 - k) := by rw [← Nat.pow_add]; congr 1; omega
  have h1 : (((n % ((2 ^ 64 : Nat) : Int)).toNat % 2 ^ k : Nat) : Int) = n % (2 ^ k : Nat) := by
    rw [Int.natCast_emod, Int.toNat_of_nonneg (Int.emod_nonneg _ (by simp)), hd, Int.natCast_mul, Int.emod_emod_of_dvd _ ⟨_, rfl⟩]
  rw [h1]
  have h2 : (n % (2 ^ k : Nat)) < 9223372036854775808 := by
    have : (2 : Nat) ^ 63 = 9223372036854775808 := by decide
    rw [← h1]; omega
  have h3 : 0 ≤ n % (2 ^ k : Nat) := by rw [← h1]; omega
  omega

set_option maxRecDepth 100000 in
set_option maxHeartbeats 6400000 in
theorem walResume_walk (a0 : Option Addr) (len0 cap0 : Nat) (z0 : List ByteArray) (w : World) (w0 : IsStrs w a0 len0 cap0 z0) (a1 : Option Addr) (len1 cap1 : Nat) (z1 : List ByteArray) (w1 : IsStrs w a1 len1 cap1 z1)
    (a2 : Option Addr) (len2 cap2 : Nat) (z2 : List Int) (w2 : IsInts w a2 len2 cap2 z2) (a3 : Option Addr) (len3 cap3 : Nat) (z3 : List Int) (w3 : IsInts w a3 len3 cap3 z3) :
    Calls Tryd.prog 3 #[.slice a0 len0 cap0, .slice a1 len1 cap1, .slice a2 len2 cap2, .slice a3 len3 cap3] w fun e w' => e = .returned (.bool true) ∧ Below w.heap.size w w' := by
  obtain ⟨l0, hl0, hm0, _, hr0⟩ := w0.norm
  obtain ⟨l1, hl1, hm1, _, hr1⟩ := w1.norm
  obtain ⟨l2, hl2, hm2, hc2, hr2⟩ := w2.norm
  obtain ⟨l3, hl3, hm3, hc3, hr3⟩ := w3.norm
  clear w0 w1 w2 w3
  unfold maxLen at hm0 hm1 hm2 hm3
  have HAW := hide (fun w => wawake_any w)
  have HBG := hide (fun wy => begin_log 1 14 3 wy (by omega) (by unfold areaE; simp [Dev.new]) (by omega) (by omega))
  unfold AV at HBG
  have HR0 := hide hr0
  have HR1 := hide hr1
  have HR2 := hide hr2
  have HR3 := hide hr3
  have HL0 := hide hl0
  have HL1 := hide hl1
  have HL2 := hide hl2
  have HL3 := hide hl3
  clear hr0 hr1 hr2 hr3 hl0 hl1 hl2 hl3
  go_enter Tryd.func3, Tryd.ntmps3
  go_wp2_with fail
  refine (unhide HAW _).mono ?_
  rintro e w1 ⟨rfl, hb1⟩
  obtain ⟨w2, hw2⟩ : ∃ w2, w1.alloc (.cells #[.int .i64 1, .int .i64 14] 26) = w2 := ⟨_, rfl⟩
  obtain ⟨A, hA⟩ : ∃ A, w1.heap.size = A := ⟨_, rfl⟩
  have hb12 : Below w.heap.size w w2 := by rw [← hw2]; exact hb1.alloc hb1.size _
  have hx2 : w2.heap[A]? = some (.cells #[.int .i64 1, .int .i64 14] 26 (0, 0)) := by rw [← hw2, ← hA]; exact heap_alloc_new w1 _
  have p0 := bcell hx2 0
  have p1 := bcell hx2 1
  simp only [List.getElem?_toArray, List.getElem?_cons_zero, List.getElem?_cons_succ] at p0 p1
  have HX2 := hide hx2
  have HB2 := hide hb12
  clear hb1 hx2 hb12 HAW
  go_wp2_with fail
  refine (unhide HBG _).mono ?_
  rintro e w3 ⟨b, lb, rfl, hl3, hb3⟩
  have HL3' := hide hl3
  have HB3 := hide hb3
  obtain ⟨B, hB⟩ : ∃ B, w2.heap.size = B := ⟨_, rfl⟩
  rw [hB] at HL3' HB3
  have HAB : Hid (A < B) := by rw [← hB]; exact block_lt (unhide HX2)
  have HWB : Hid (w.heap.size ≤ B) := by rw [← hB]; exact (unhide HB2).size
  have HBW3 : Hid (B ≤ w3.heap.size) := by rw [← hB]; exact hb3.size
  have HPD := hide (begin_pd 1 14 3 (by omega) (by omega))
  clear hl3 hb3 HBG hw2 hA hB p0 p1
  /- keep: at most thirty of them -/
  obtain ⟨kl, hkl⟩ : ∃ kl, l2.take 30 = kl := ⟨_, rfl⟩
  have HKL30 : Hid (kl.length ≤ 30) := by rw [← hkl]; show (l2.take 30).length ≤ 30; rw [List.length_take]; omega
  have HKB : Hid (∀ u, Below w.heap.size w u → (30 < len2 → NumRow u (.slice a2 30 cap2) kl) ∧ (¬ 30 < len2 → NumRow u (.slice a2 len2 cap2) kl)) := fun u hu => by
    have hlen : l2.length = len2 := unhide HL2
    refine ⟨fun h30 => ?_, fun h30 => ?_⟩
    · obtain ⟨ao, c, e, hrow⟩ := (unhide HR2).later hu
      refine ⟨a2, cap2, ?_, fun j hj => ?_⟩
      · rw [← hkl, List.length_take, hlen, Nat.min_eq_left (by omega)]
      · have hj2 : j < l2.length := by rw [← hkl, List.length_take] at hj; omega
        injection e with e1 e2 e3
        subst e1
        obtain ⟨bk, off, h1, h2⟩ := hrow j hj2
        refine ⟨bk, off, h1, ?_⟩
        rw [h2]
        congr 2
        subst hkl
        simp
    · have e : kl = l2 := by rw [← hkl]; exact List.take_of_length_le (by omega)
      rw [e]
      exact (unhide HR2).later hu
  clear hkl
  go_upto_if 49 with fail
  go_cut [2] (fun s2 wx => ∃ (kn kc : Nat), s2 = .slice a2 kn kc ∧ wx = w3 ∧ (∀ u, Below w.heap.size w u → NumRow u (.slice a2 kn kc) kl))
  case first =>
    by_cases h30 : 30 < len2
    · have h30i : (30 : Int) < (len2 : Int) := by omega
      have h30c : (30 : Int) ≤ (cap2 : Int) := by omega
      go_wp2_with fail
      go_meet
      case rel => exact ⟨30, cap2, rfl, rfl, fun u hu => (unhide HKB u hu).1 h30⟩
    · have h30i : ¬ (30 : Int) < (len2 : Int) := by omega
      go_wp2_with fail
      go_meet
      case rel => exact ⟨len2, cap2, rfl, rfl, fun u hu => (unhide HKB u hu).2 h30⟩
  case rest =>
  obtain ⟨kn, kc, rfl, rfl, hk⟩ := hcut
  have HK := hide hk
  clear hk HR2 HL2 HKB hc2 hm2
  go_upto_block 0 with fail
  go_cut [13, 14] (fun s13 s14 wx => ∃ (must : Nat) (ts : List (List UInt8)) (D : Dev), PD 1 14 3 ts must D ∧ LogAt B wx b lb D (1 : Nat) (14 : Nat) (3 : Nat) ((3 + Codec.costs ts : Nat) : Int) ∧ Below B w2 wx ∧ D.calls ≤ Codec.costs ts + 8)
  case first =>
    go_wp2_with fail
    go_loopw [13, 14] (fun i _ wr => ∃ (j must : Nat) (ts : List (List UInt8)) (D : Dev), j ≤ len0 ∧ j ≤ 8 ∧ i = .int .i64 j ∧ PD 1 14 3 ts must D ∧ LogAt B wr b lb D (1 : Nat) (14 : Nat) (3 : Nat) ((3 + Codec.costs ts : Nat) : Int) ∧ Below B w2 wr ∧ D.calls ≤ Codec.costs ts + j) (fun i _ _ => 8 - (intOf i).toNat)
    case atStart => exact ⟨0, 0, [], Dev.new 24, Nat.zero_le _, Nat.zero_le _, rfl, unhide HPD, unhide HL3', unhide HB3, Nat.le_refl _⟩
    case round =>
      obtain ⟨j, must, ts, D, hj0, hj8, rfl, hpd, hlog, hbw, hcal⟩ := hrel
      clear HL3' HPD
      have hcst := hpd.cst
      have HPDj := hide hpd
      have HLOGj := hide hlog
      have HBWj := hide hbw
      have hBr : B ≤ wr.heap.size := by have := hlog.dev.lo; have := hlog.dev.lt; omega
      have HBR := hide hBr
      clear hpd hlog hbw hBr
      by_cases hlt0 : j < len0
      · have i1 : (j : Int) < (len0 : Int) := by omega
        by_cases hlt8 : j < 8
        · have hjL : j < l0.length := by have := unhide HL0; omega
          obtain ⟨bk, off, rfl, hc0⟩ := (unhide HR0).later ((unhide HB2).trans ((unhide HBWj).mono (unhide HWB))) j hjL
          have i2 : (j : Int) < 8 := by omega
          have i3 : (0 : Int) ≤ (j : Int) := by omega
          obtain ⟨t, ht⟩ : ∃ t, l0[j]'hjL = t := ⟨_, rfl⟩
          rw [ht] at hc0
          obtain ⟨u, hu⟩ : ∃ u, t.take 90 = u := ⟨_, rfl⟩
          have hu90 : u.length ≤ 90 := by rw [← hu, List.length_take]; omega
          have hts : (S t).size = t.length := rfl
          obtain ⟨tn, htn⟩ : ∃ tn, t.length = tn := ⟨_, rfl⟩
          rw [htn] at hts
          have HAPP := hide (append_step (unhide HPDj) (unhide HLOGj) u (unhide HBR) (by omega) (by omega) (by omega) (by omega) (by omega))
          have HFOR : Hid (∀ w5 ts' D', PD 1 14 3 ts' must D' → LogAt B w5 b lb D' (1 : Nat) (14 : Nat) (3 : Nat) ((3 + Codec.costs ts' : Nat) : Int) → D'.calls + Codec.costs ts = D.calls + Codec.costs ts' → Calls Tryd.prog 7 #[.pointer (some ⟨lb, 0, none⟩)] w5 fun e w' => ∃ E, e = .returned (.int .i64 E) ∧ PD 1 14 3 ts' ts'.length D'.flush ∧ LogAt B w' b lb D'.flush (1 : Nat) (14 : Nat) (3 : Nat) ((3 + Codec.costs ts' : Nat) : Int) ∧ Below B w5 w' ∧ D'.flush.calls ≤ Codec.costs ts' + (j + 1)) := fun w5 ts' D' h1 h2 h3 => by
            have := h1.cst
            refine (force_any h2 h1.fine.ok (by rw [h1.lf]; omega) (by omega) (by have := h1.wl; omega) (by rw [h1.len]; omega)).mono ?_
            rintro e w' ⟨rfl, h4, h5⟩
            rcases h1.flush (by omega) (by omega) with ⟨h6, h7, h8⟩ | h6
            · exact ⟨_, rfl, h6, h4, h5.below h2 (by have := h2.dev.lo; have := h2.dev.lt; omega), by omega⟩
            · omega
          have hcut90 : 90 < tn → (S t).extract 0 90 = S u := fun _ => by rw [S_cut, List.drop_zero, hu]
          have hsame90 : ¬ 90 < tn → t = u := fun h => by rw [← hu]; exact (List.take_of_length_le (by omega)).symm
          clear htn ht hu
          by_cases h90 : 90 < tn
          all_goals first
            | (have h90i : (90 : Int) < (tn : Int) := by omega
               have h90j : (90 : Int) ≤ (tn : Int) := by omega
               have hcut := hcut90 h90
               clear hcut90 hsame90
               go_wp2_with fail)
            | (have h90i : ¬ (90 : Int) < (tn : Int) := by omega
               have hst := hsame90 h90
               clear hcut90 hsame90
               subst hst
               go_wp2_with fail)
          all_goals
            refine (unhide HAPP).mono ?_
            rintro e w5 ⟨er, q0, q1, qt, ts', D', rfl, hp5, hl5, hc5, hb5⟩
            have HP5 := hide hp5
            have HL5 := hide hl5
            have HC5 := hide hc5
            have HB5 := hide ((unhide HBWj).trans hb5)
            clear hp5 hl5 hc5 hb5 HAPP
            by_cases hj2 : j = 2
            · subst hj2
              go_wp2_with fail
              refine (unhide HFOR w5 ts' D' (unhide HP5) (unhide HL5) (unhide HC5)).mono ?_
              rintro e w6 ⟨E, rfl, hp6, hl6, hb6, hc6⟩
              have HE6 := hide (show PD 1 14 3 ts' ts'.length D'.flush ∧ LogAt B w6 b lb D'.flush (1 : Nat) (14 : Nat) (3 : Nat) ((3 + Codec.costs ts' : Nat) : Int) ∧ Below B w2 w6 ∧ D'.flush.calls ≤ Codec.costs ts' + (2 + 1) from ⟨hp6, hl6, (unhide HB5).trans hb6, hc6⟩)
              clear hp6 hl6 hb6 hc6 HFOR
              go_wp2_with fail
              obtain ⟨k1, k2, k3, k4⟩ := unhide HE6
              exact ⟨⟨3, ts'.length, ts', D'.flush, by omega, by omega, by simp, k1, k2, k3, k4⟩, by simp [intOf]⟩
            · have hj2i : ((j : Int) == 2) = false := by simp; omega
              have hj2p : ¬ (j : Int) = 2 := by omega
              clear hj2
              go_wp2_with fail
              have hc5 := unhide HC5
              exact ⟨⟨j + 1, must, ts', D', by omega, by omega, by simp, unhide HP5, unhide HL5, unhide HB5, by omega⟩, by simp [intOf]; omega⟩
        · have i2 : ¬ (j : Int) < 8 := by omega
          go_wp2_with fail
          go_meet
          case rel => exact ⟨must, ts, D, unhide HPDj, unhide HLOGj, unhide HBWj, by omega⟩
      · have i1 : ¬ (j : Int) < (len0 : Int) := by omega
        go_wp2_with fail
        go_meet
        case rel => exact ⟨must, ts, D, unhide HPDj, unhide HLOGj, unhide HBWj, by omega⟩
  case rest =>
  obtain ⟨must, ts, D, hpd, hlog, hbw, hcal⟩ := hcut
  have hcst := hpd.cst
  obtain ⟨k, hmk, hkts, hscan, hstand⟩ := hpd.found (by omega) (by omega) (by omega) (by omega) (D.crash kl) (by show (lay _ _).length = 24; rw [lay_length]; exact hpd.len) (crash_can D kl)
  have hbwW := (unhide HB2).trans (hbw.mono (unhide HWB))
  have HCR := hide (crash_any hlog.dev hpd.fine.ok _ kl (unhide HK _ hbwW) (by have := hpd.wl; omega) (by rw [hpd.len]; omega) (by have := unhide HKL30; omega))
  have hF1 := hpd.fine.crash kl
  have hL1 : (D.crash kl).L.length = 24 := by show (lay _ _).length = 24; rw [lay_length]; exact hpd.len
  have hc1 : (D.crash kl).calls ≤ 22 := by show D.calls ≤ 22; omega
  have hRS1 : ∀ en, RS 1 14 3 en (D.crash kl) (D.crash kl) := fun en => ⟨rfl, rfl, rfl, hL1, hF1, rfl, fun _ _ _ => rfl, fun _ _ _ => Or.inl rfl⟩
  have HSC := hide (fun wy (hd : DevAt B wy b (D.crash kl)) => scan_ok hd 1 14 3 (by omega) (by rw [hL1]; omega) (by rw [hL1]; omega) rfl hF1.cur (by omega) (by simp [Dev.crash]))
  rw [hscan] at HSC
  generalize D.crash kl = D1 at *
  obtain ⟨tk, htk⟩ : ∃ tk, ts.take k = tk := ⟨_, rfl⟩
  obtain ⟨en, hen⟩ : ∃ en, 3 + Codec.costs tk = en := ⟨_, rfl⟩
  have hen2 : en ≤ 17 := by have := costs_take ts k; rw [htk] at this; omega
  rw [htk] at hscan hstand HSC
  rw [hen] at hscan hstand HSC
  have HSCAN := hide hscan
  have HSTAND := hide hstand
  have HTK := hide htk
  have HEN := hide hen
  have HKTS := hide hkts
  have HRS1 := hide (hRS1 en)
  have HF1 := hide hF1
  have HHL1 := hide hL1
  have HLOG := hide hlog
  have HBW := hide hbw
  have hx0 := (hbw.block A (unhide HAB)).trans (unhide HX2)
  have HSZC := hide (show B ≤ wc.heap.size by have := hlog.dev.lo; have := hlog.dev.lt; omega)
  unfold AV at HSC
  clear hcal hcst hmk hscan hstand htk hen hkts hRS1 hF1 hL1 hpd hlog hbw hbwW hx0 HPD HL3' HB3 HBW3
  go_wp2_with fail
  refine (unhide HCR).mono ?_
  rintro e w4 ⟨rfl, hd4, hs4⟩
  have hb4 := hs4.below (unhide HLOG).dev (unhide HSZC)
  have HB4 := hide ((unhide HBW).trans hb4)
  have hx4 := ((unhide HB4).block A (unhide HAB)).trans (unhide HX2)
  have p0 := bcell hx4 0
  have p1 := bcell hx4 1
  simp only [List.getElem?_toArray, List.getElem?_cons_zero, List.getElem?_cons_succ] at p0 p1
  have HSC4 := hide (unhide HSC w4 hd4)
  have HD4 := hide hd4
  have HSZ4 := hide (Nat.le_trans (unhide HSZC) hs4.size)
  clear hd4 hs4 hb4 hx4 HCR HSC HLOG HBW HSZC
  go_wp2_with fail
  refine (unhide HSC4).mono ?_
  rintro e w5 ⟨v15, rfl, ho5, hb5⟩
  obtain ⟨ao5, c5, rfl, _⟩ := ownsRow_slice ho5
  have HW5 : Hid (DevAt B w5 b D1 ∧ Below B w2 w5 ∧ w5.ownsRow B 32 3 (.slice ao5 (Codec.recs 3 tk).length c5) (Codec.recs 3 tk).length (rcs (Codec.recs 3 tk)) ∧ (∀ q, (Value.slice ao5 (Codec.recs 3 tk).length c5).ownBlock = some q → DFor w5 b q)) := by
    refine ⟨((unhide HD4).later hb5).1, (unhide HB4).trans (hb5.mono (unhide HSZ4)), ownsRow_less ho5 (unhide HSZ4), fun q hq => ?_⟩
    obtain ⟨cur, hc, hlo⟩ := ownsRow_blk ho5 hq
    exact (DFor.new (unhide HD4) hlo).same (hb5.block b (unhide HD4).lt)
  clear ho5 hb5 HSC4 HD4 HB4 HSZ4 p0 p1
  rw [Codec.recs_length] at HW5
  rw [Codec.recs_length]
  go_upto_block 2 with fail
  go_cut [18] (fun s18 wx => ∃ (Dj : Dev), RS 1 14 3 en D1 Dj ∧ DevAt B wx b Dj ∧ Below B w2 wx ∧ wx.ownsRow B 32 3 (.slice ao5 tk.length c5) tk.length (rcs (Codec.recs 3 tk)) ∧ (∀ q, (Value.slice ao5 tk.length c5).ownBlock = some q → DFor wx b q) ∧ Dj.calls ≤ 200)
  case first =>
    go_wp2_with fail
    go_loopw [18] (fun i wr => ∃ (j : Nat) (Dj : Dev), j ≤ len3 ∧ j ≤ 4 ∧ i = .int .i64 j ∧ RS 1 14 3 en D1 Dj ∧ DevAt B wr b Dj ∧ Below B w2 wr ∧ wr.ownsRow B 32 3 (.slice ao5 tk.length c5) tk.length (rcs (Codec.recs 3 tk)) ∧ (∀ q, (Value.slice ao5 tk.length c5).ownBlock = some q → DFor wr b q) ∧ Dj.calls ≤ 22 + 15 * j) (fun i _ => 4 - (intOf i).toNat)
    case atStart =>
      obtain ⟨k1, k2, k3, k4⟩ := unhide HW5
      exact ⟨0, D1, Nat.zero_le _, Nat.zero_le _, rfl, unhide HRS1, k1, k2, k3, k4, hc1⟩
    case round =>
      obtain ⟨j, Dj, hj0, hj4, rfl, hrs, hd, hbw, hrow, hfar, hcal⟩ := hrel
      clear HW5
      have HRSj := hide hrs
      have HDj := hide hd
      have HBWj := hide hbw
      have HROW := hide hrow
      have HFAR := hide hfar
      have hBr : B ≤ wr.heap.size := by have := hd.lo; have := hd.lt; omega
      have HBR := hide hBr
      clear hrs hd hbw hrow hfar hBr
      by_cases hlt0 : j < len3
      · have i1 : (j : Int) < (len3 : Int) := by omega
        by_cases hlt4 : j < 4
        · have hjL : j < l3.length := by have := unhide HL3; omega
          obtain ⟨ao3, c3, e3, hrow3⟩ := (unhide HR3).later ((unhide HB2).trans ((unhide HBWj).mono (unhide HWB)))
          injection e3 with e31 e32 e33
          subst e31
          obtain ⟨bk, off, rfl, hc0⟩ := hrow3 j hjL
          have i2 : (j : Int) < 4 := by omega
          have i3 : (0 : Int) ≤ (j : Int) := by omega
          generalize l3[j]'hjL = z at *
          obtain ⟨l, hle, hl15⟩ : ∃ l : Nat, bits .and .i64 z 15 = (l : Int) ∧ l ≤ 15 := ⟨(z % 16).toNat, by rw [w_mask2 z 4 15 (by omega) (by decide)]; omega, by omega⟩
          have HARM := hide (arm_any (unhide HDj) (l : Int))
          obtain ⟨r1, r2, r3, r4, r5⟩ := (unhide HRSj).round (by omega) (by omega) (by have := unhide HEN; omega) hen2 (unhide HSCAN) l kl
          have hArmF : Fine (Dj.arm (l : Int)) := (unhide HRSj).fine.writes [] (by simp) _ rfl (by simp [Dev.arm])
          have HRES := hide (fun wy (hdy : DevAt B wy b (Dj.arm (l : Int))) (hBy : B ≤ wy.heap.size) => resume_any hdy 1 14 3 hBy (by omega) (by show _ ≤ Dj.L.length; rw [(unhide HRSj).len]; omega) (by show Dj.L.length ≤ _; rw [(unhide HRSj).len]; omega) hArmF (unhide HRSj).dn (by omega) (by omega) (by show (l : Int).toNat < _; omega) (by show Dj.calls ≤ _; omega) (by show Dj.W.length ≤ _; rw [(unhide HRSj).wl]; simp))
          have HR1' := hide r1
          have HR2' := hide r2
          have HR3' := hide r3
          have HR4' := hide r4
          have HR5' := hide r5
          generalize Dev.resumes 1 14 3 (Dj.arm (l : Int)) = P at *
          unfold AV at HRES
          clear r1 r2 r3 r4 r5 hArmF e32 e33 hrow3 hjL
          go_wp2_with fail
          refine (unhide HARM).mono ?_
          rintro e w6 ⟨rfl, hd6, hs6⟩
          have hb6 := hs6.below (unhide HDj) (unhide HBR)
          have HB6 := hide ((unhide HBWj).trans hb6)
          have hx6 := ((unhide HB6).block A (unhide HAB)).trans (unhide HX2)
          have p0 := bcell hx6 0
          have p1 := bcell hx6 1
          simp only [List.getElem?_toArray, List.getElem?_cons_zero, List.getElem?_cons_succ] at p0 p1
          have HRES6 := hide (unhide HRES w6 hd6 (Nat.le_trans (unhide HBR) hs6.size))
          have HS6 := hide hs6
          have HD6 := hide hd6
          have HBR6 := hide (Nat.le_trans (unhide HBR) hs6.size)
          clear hd6 hs6 hb6 hx6 HARM HRES hc0
          go_wp2_with fail
          refine (unhide HRES6).mono ?_
          rintro e w7 ⟨hno, hyes, hs7⟩
          have hed : (∃ v, e = .returned v) ∧ DevAt B w7 b P.1 := by
            by_cases hP : P.2 = 0
            · obtain ⟨lb7, v7, rfl, hl7, _⟩ := hyes hP
              exact ⟨⟨_, rfl⟩, hl7.dev⟩
            · obtain ⟨rfl, hd7⟩ := hno hP
              exact ⟨⟨_, rfl⟩, hd7⟩
          obtain ⟨⟨v7, rfl⟩, hd7⟩ := hed
          have hb7 := hs7.below (unhide HD6) (unhide HBR6)
          have HB7 := hide ((unhide HB6).trans hb7)
          have HS7 := hide ((unhide HS6).trans hs7)
          have HD7 := hide hd7
          have HBR7 := hide (Nat.le_trans (unhide HBR6) hs7.size)
          have HCR7 := hide (crash_any hd7 (unhide HR2').ok _ kl (unhide HK _ ((unhide HB2).trans ((unhide HB7).mono (unhide HWB)))) (by have := unhide HR4'; omega) (by rw [unhide HR3']; omega) (by have := unhide HKL30; omega))
          clear hno hyes hs7 hd7 hb7 HRES6 p0 p1
          go_wp2_with fail
          refine (unhide HCR7).mono ?_
          rintro e w8 ⟨rfl, hd8, hs8⟩
          have HD8 := hide hd8
          have HB8 := hide ((unhide HB7).trans (hs8.below (unhide HD7) (unhide HBR7)))
          have HS8 := hide ((unhide HS7).trans hs8)
          clear hd8 hs8 HCR7
          go_wp2_with fail
          have hrow8 : w8.ownsRow B 32 3 (.slice ao5 tk.length c5) tk.length (rcs (Codec.recs 3 tk)) := ownsRow_same (unhide HROW) fun q hq => by
            obtain ⟨cur, hc, _⟩ := ownsRow_blk (unhide HROW) hq
            exact ((unhide HS8).keep q (block_lt hc) (unhide HFAR q hq)).1
          refine ⟨⟨j + 1, P.1.crash kl, by omega, by omega, by simp, unhide HR1', unhide HD8, unhide HB8, hrow8, fun q hq => ?_, ?_⟩, by simp [intOf]; omega⟩
          · obtain ⟨cur, hc, _⟩ := ownsRow_blk (unhide HROW) hq
            exact ((unhide HS8).keep q (block_lt hc) (unhide HFAR q hq)).2
          · have := unhide HR5'
            show P.1.calls ≤ _
            omega
        · have i2 : ¬ (j : Int) < 4 := by omega
          go_wp2_with fail
          go_meet
          case rel => exact ⟨Dj, unhide HRSj, unhide HDj, unhide HBWj, unhide HROW, unhide HFAR, by omega⟩
      · have i1 : ¬ (j : Int) < (len3 : Int) := by omega
        go_wp2_with fail
        go_meet
        case rel => exact ⟨Dj, unhide HRSj, unhide HDj, unhide HBWj, unhide HROW, unhide HFAR, by omega⟩
  case rest =>
  obtain ⟨Dj, hrs, hd, hbw, hrow, hfar, hcal⟩ := hcut
  obtain ⟨g1, g2, g3, g4⟩ := hrs.last (by omega) (by omega) (by have := unhide HEN; omega) hen2 (unhide HSCAN) ts k (unhide HKTS) (by rw [unhide HTK]; exact (unhide HEN).symm) (by omega) (fun a h1 h2 => unhide HSTAND a h1 (by rw [unhide HTK] at h2; have := unhide HEN; omega)) (by omega)
  rw [unhide HTK] at g3
  have hBr : B ≤ wc.heap.size := by have := hd.lo; have := hd.lt; omega
  have HRES := hide (resume_any hd 1 14 3 hBr (by omega) (by rw [hrs.len]; omega) (by rw [hrs.len]; omega) hrs.fine hrs.dn (by omega) (by omega) (by rw [hrs.lf]; omega) (by omega) (by rw [hrs.wl]; simp))
  rw [hrs.scan (unhide HSCAN)] at HRES
  generalize Dev.resumes 1 14 3 Dj = P at *
  have hx0 := (hbw.block A (unhide HAB)).trans (unhide HX2)
  have p0 := bcell hx0 0
  have p1 := bcell hx0 1
  simp only [List.getElem?_toArray, List.getElem?_cons_zero, List.getElem?_cons_succ] at p0 p1
  have HG1 := hide g1
  have HG2 := hide g2
  have HG3 := hide g3
  have HG4 := hide g4
  have HD := hide hd
  have HBW := hide hbw
  have HROW := hide hrow
  have HFAR := hide hfar
  have HBR := hide hBr
  have htkl : tk.length = k := by rw [← unhide HTK, List.length_take]; have := unhide HKTS; omega
  have HTKL := hide htkl
  have htk14 : tk.length ≤ 14 := by have := len_costs tk; have := unhide HEN; omega
  unfold AV at HRES
  clear g1 g2 g3 g4 hd hbw hrow hfar hBr hx0 hrs htkl HW5 HSCAN HSTAND HRS1
  go_wp2_with fail
  refine (unhide HRES).mono ?_
  rintro e w9 ⟨_, hyes, hs9⟩
  obtain ⟨lb2, v20, rfl, hl9, ho9, hf9⟩ := hyes (unhide HG1)
  obtain ⟨ao9, c9, rfl, _⟩ := ownsRow_slice ho9
  rw [Codec.recs_length] at ho9
  have hb9 := hs9.below (unhide HD) (unhide HBR)
  have hrow9 : w9.ownsRow B 32 3 (.slice ao5 tk.length c5) tk.length (rcs (Codec.recs 3 tk)) := ownsRow_same (unhide HROW) fun q hq => by
    obtain ⟨cur, hc, _⟩ := ownsRow_blk (unhide HROW) hq
    exact (hs9.keep q (block_lt hc) (unhide HFAR q hq)).1
  have hfar9 : Far w9 b lb2 (.slice ao5 tk.length c5) := fun q hq => by
    obtain ⟨cur, hc, _⟩ := ownsRow_blk (unhide HROW) hq
    refine ⟨(hs9.keep q (block_lt hc) (unhide HFAR q hq)).2, ?_⟩
    rintro rfl
    exact ownsRow_unlike hrow9 hl9.log (by decide) hq
  have HHD := hide (head_any hl9.log)
  have HNX := hide (next_any hl9.log)
  have HLO := hide (loose_any hl9.dev)
  rw [unhide HG2] at HLO
  have HL9 := hide hl9
  have HO9 := hide (ownsRow_less ho9 (unhide HBR))
  have HROW9 := hide hrow9
  have HFAR9 := hide hfar9
  have HB9 := hide ((unhide HBW).trans hb9)
  have HSZ9 := hide (Nat.le_trans (unhide HBR) hs9.size)
  rw [Codec.recs_length]
  clear hyes hs9 hl9 ho9 hf9 hb9 hrow9 hfar9 HRES HD HROW HFAR HBR HBW p0 p1
  go_wp2_with fail
  refine (unhide HHD).mono ?_
  rintro e w9 ⟨rfl, rfl⟩
  go_wp2_with fail
  refine (unhide HNX).mono ?_
  rintro e w9 ⟨rfl, rfl⟩
  go_wp2_with fail
  refine (unhide HLO).mono ?_
  rintro e w9 ⟨rfl, rfl⟩
  clear HHD HNX HLO
  go_wp2_with fail
  go_loopw [151, 22] (fun i _ wr => ∃ j : Nat, j ≤ tk.length ∧ i = .int .i64 j ∧ Below w9.heap.size w9 wr) (fun i _ _ => tk.length - (intOf i).toNat)
  case atStart => exact ⟨0, Nat.zero_le _, rfl, Below.refl _ _⟩
  case round =>
  obtain ⟨j, hj, rfl, hbr⟩ := hrel
  by_cases hjt : j < tk.length
  · have hra := ownsRow_later (unhide HROW9) hbr
    have hrb := ownsRow_later (unhide HO9) hbr
    obtain ⟨_, _, ea, hga⟩ := ownsRow_slice hra
    obtain ⟨_, _, eb, hgb⟩ := ownsRow_slice hrb
    injection ea with ea1 ea2 ea3
    injection eb with eb1 eb2 eb3
    obtain ⟨ga, hga'⟩ := hga (by omega)
    obtain ⟨gb, hgb'⟩ := hgb (by omega)
    rw [← ea1] at hga'
    rw [← eb1] at hgb'
    subst hga' hgb'
    have hjr : j < (Codec.recs 3 tk).length := by rw [Codec.recs_length]; exact hjt
    obtain ⟨x0, x1, x2⟩ := rec_cells hra j hjr
    obtain ⟨y0, y1, y2⟩ := rec_cells hrb j hjr
    generalize (Codec.recs 3 tk)[j]'hjr = r at *
    have i1 : (j : Int) < (tk.length : Int) := by omega
    have i3 : (0 : Int) ≤ (j : Int) := by omega
    have HBr := hide hbr
    clear ea1 ea2 ea3 eb1 eb2 eb3 hga hgb hra hrb hbr hjr
    go_wp2_with fail
    go_quiet (fail)
    clear x0 x1 x2 y0 y1 y2
    go_wp2_with fail
    refine ⟨⟨j + 1, by omega, by simp, w_below_drewN (unhide HBr) _⟩, by simp [intOf]; omega⟩
  · have i1 : ¬ (j : Int) < (tk.length : Int) := by omega
    obtain ⟨hl10, hs10⟩ := (unhide HL9).later hbr
    obtain ⟨hfar10, hrow10⟩ := (unhide HFAR9).step (unhide HROW9) hs10
    have HB10 := hide ((unhide HB9).trans (hbr.mono (unhide HSZ9)))
    rw [← unhide HEN] at hl10
    have HST : Hid (∃ (us : List (List UInt8)) (D4 : Dev) (ao : Option Addr) (c : Nat), Value.slice ao5 tk.length c5 = .slice ao us.length c ∧ (∃ q, us = tk ++ q) ∧ PD 1 14 3 us k D4 ∧ LogAt B wr b lb2 D4 (1 : Nat) (14 : Nat) (3 : Nat) ((3 + Codec.costs us : Nat) : Int) ∧ Below B w2 wr ∧ wr.ownsRow B 32 3 (.slice ao us.length c) us.length (rcs (Codec.recs 3 us)) ∧ Far wr b lb2 (.slice ao us.length c)) :=
      ⟨tk, P.1, ao5, c5, rfl, ⟨[], by simp⟩, unhide HG3, hl10, unhide HB10, hrow10, hfar10⟩
    clear hj hjt hbr hl10 hs10 hfar10 hrow10 HB10 HL9 HFAR9 HROW9 HO9 HB9 HSZ9
    obtain ⟨i0, hi, hz0, hz1, hz2⟩ := info_parts info_rec
    go_upto_block 6 with fail
    go_cut [15, 24, 25, 26, 27] (fun s15 _ _ _ _ wx => ∃ (us : List (List UInt8)) (D4 : Dev) (ao : Option Addr) (c : Nat), s15 = .slice ao us.length c ∧ (∃ q, us = tk ++ q) ∧ PD 1 14 3 us k D4 ∧ LogAt B wx b lb2 D4 (1 : Nat) (14 : Nat) (3 : Nat) ((3 + Codec.costs us : Nat) : Int) ∧ Below B w2 wx ∧ wx.ownsRow B 32 3 (.slice ao us.length c) us.length (rcs (Codec.recs 3 us)) ∧ Far wx b lb2 (.slice ao us.length c))
    case first =>
      go_wp2_with fail
      go_loopw [15, 24, 25, 26, 27] (fun v i _ _ _ wr => ∃ j : Nat, j ≤ len1 ∧ j ≤ 4 ∧ i = .int .i64 j ∧ ∃ (us : List (List UInt8)) (D4 : Dev) (ao : Option Addr) (c : Nat), v = .slice ao us.length c ∧ (∃ q, us = tk ++ q) ∧ PD 1 14 3 us k D4 ∧ LogAt B wr b lb2 D4 (1 : Nat) (14 : Nat) (3 : Nat) ((3 + Codec.costs us : Nat) : Int) ∧ Below B w2 wr ∧ wr.ownsRow B 32 3 (.slice ao us.length c) us.length (rcs (Codec.recs 3 us)) ∧ Far wr b lb2 (.slice ao us.length c)) (fun _ i _ _ _ _ => 4 - (intOf i).toNat)
      case atStart => exact ⟨0, Nat.zero_le _, Nat.zero_le _, rfl, unhide HST⟩
      case round =>
        obtain ⟨j, hj0, hj4, rfl, us, D4, ao, c, rfl, ⟨uq, huq⟩, hpd, hlog, hbw, hrow, hfar⟩ := hrel
        clear HST
        have hcst := hpd.cst
        have hus14 := len_costs us
        have HUQ := hide huq
        have HPDj := hide hpd
        have HLOGj := hide hlog
        have HBWj := hide hbw
        have HROWj := hide hrow
        have HFARj := hide hfar
        have hBr : B ≤ wr.heap.size := by have := hlog.dev.lo; have := hlog.dev.lt; omega
        have HBR := hide hBr
        clear hpd hlog hbw hBr hrow hfar huq
        by_cases hlt0 : j < len1
        · have i1 : (j : Int) < (len1 : Int) := by omega
          by_cases hlt4 : j < 4
          · have hjL : j < l1.length := by have := unhide HL1; omega
            obtain ⟨bk, off, rfl, hc0⟩ := (unhide HR1).later ((unhide HB2).trans ((unhide HBWj).mono (unhide HWB))) j hjL
            have i2 : (j : Int) < 4 := by omega
            have i3 : (0 : Int) ≤ (j : Int) := by omega
            obtain ⟨t, ht⟩ : ∃ t, l1[j]'hjL = t := ⟨_, rfl⟩
            rw [ht] at hc0
            obtain ⟨u, hu⟩ : ∃ u, t.take 60 = u := ⟨_, rfl⟩
            have hu60 : u.length ≤ 60 := by rw [← hu, List.length_take]; omega
            have hts : (S t).size = t.length := rfl
            obtain ⟨tn, htn⟩ : ∃ tn, t.length = tn := ⟨_, rfl⟩
            rw [htn] at hts
            have HAPP := hide (append_law (unhide HPDj) (unhide HLOGj) u (unhide HBR) (by omega) (by omega) (by omega) (by omega) (by omega))
            have hcut60 : 60 < tn → (S t).extract 0 60 = S u := fun _ => by rw [S_cut, List.drop_zero, hu]
            have hsame60 : ¬ 60 < tn → u = t := fun h => by rw [← hu]; exact List.take_of_length_le (by omega)
            clear htn ht hu
            by_cases h60 : 60 < tn
            all_goals first
              | (have h60i : (60 : Int) < (tn : Int) := by omega
                 have h60j : (60 : Int) ≤ (tn : Int) := by omega
                 have hcut := hcut60 h60
                 clear hcut60 hsame60
                 go_wp2_with fail)
              | (have h60i : ¬ (60 : Int) < (tn : Int) := by omega
                 have hst := hsame60 h60
                 clear hcut60 hsame60
                 subst hst
                 go_wp2_with fail)
            all_goals
              refine (unhide HAPP).mono ?_
              rintro e w5 ⟨er, q0, q1, qt, rfl, hst5, hor⟩
              have hb5 := hst5.below (unhide HLOGj) (unhide HBR)
              obtain ⟨hfar5, hrow5⟩ := (unhide HFARj).step (unhide HROWj) hst5
              have HFAR5 := hide hfar5
              have HROW5 := hide hrow5
              have HB5 := hide ((unhide HBWj).trans hb5)
              have HSZ5 := hide (Nat.le_trans (unhide HBR) hst5.size)
              clear hb5 hfar5 hrow5 hst5 HAPP hc0
              rcases hor with ⟨rfl, hfit, rfl, rfl, rfl, hp5, hl5⟩ | ⟨rfl, hnf, rfl, rfl, rfl, hl5⟩
              · obtain ⟨w6, hw6⟩ : ∃ w6, w5.alloc (.cells #[.int .i64 ((3 + Codec.costs us : Nat) : Int), .int .i64 ((3 + Codec.costs us + Codec.cost u.length - 1 : Nat) : Int), .string (S u)] 32) = w6 := ⟨_, rfl⟩
                obtain ⟨RB, hRB⟩ : ∃ RB, w5.heap.size = RB := ⟨_, rfl⟩
                have hb56 : Below w5.heap.size w5 w6 := by rw [← hw6]; exact (Below.refl _ _).alloc (Nat.le_refl _) _
                have hbx6 : w6.heap[RB]? = some (.cells #[.int .i64 ((3 + Codec.costs us : Nat) : Int), .int .i64 ((3 + Codec.costs us + Codec.cost u.length - 1 : Nat) : Int), .string (S u)] 32 (0, 0)) := by rw [← hw6, ← hRB]; exact heap_alloc_new w5 _
                obtain ⟨hl6, hs6⟩ := hl5.later hb56
                obtain ⟨hfar6, hrow6⟩ := (unhide HFAR5).step (unhide HROW5) hs6
                have hcs : Codec.costs (us ++ [u]) = Codec.costs us + Codec.cost u.length := by rw [Codec.costs_append]; simp [Codec.costs]
                obtain ⟨n1, hn1⟩ : ∃ n1, 3 + Codec.costs us = n1 := ⟨_, rfl⟩
                obtain ⟨n2, hn2⟩ : ∃ n2, 3 + Codec.costs us + Codec.cost u.length - 1 = n2 := ⟨_, rfl⟩
                have hrs : Codec.recs 3 (us ++ [u]) = Codec.recs 3 us ++ [⟨n1, n2, u⟩] := by rw [recs_snoc, hn2, hn1]
                rw [hn2, hn1] at hbx6 hw6
                have c0 := bcell hbx6 0
                have c1 := bcell hbx6 1
                have c2 := bcell hbx6 2
                simp only [List.getElem?_toArray, List.getElem?_cons_zero, List.getElem?_cons_succ] at c0 c1 c2
                have HP5 := hide hp5
                have HL6 := hide hl6
                have HFAR6 := hide hfar6
                have HROW6 := hide hrow6
                have HB6 := hide ((unhide HB5).trans (hb56.mono (unhide HSZ5)))
                have HSZ6 := hide (Nat.le_trans (unhide HSZ5) hb56.size)
                have HRS := hide hrs
                rw [hn2, hn1]
                clear hp5 hl5 hl6 hs6 hfar6 hrow6 hb56 hbx6 hcs hn1 hn2 hrs
                go_wp2_with (first | (at_builtin; refine wpList_append_fresh rfl _ _ 38 rfl B 32 i0 (.agg #[.int .i64 0, .int .i64 0, .string ⟨#[]⟩]) 3 32 under_recs hi hz0 hz1 hz2 rfl (by decide) _ _ _ rfl ((unhide HROW6).alloc _) ⟨w6.heap.size, 0, none⟩ 1 1 [.int .i64 (n1 : Int), .int .i64 (n2 : Int), .string (S u)] rfl rfl (cell_three_new _ _ _ _ _) ?c2 ?c3 ?c4 ?c5 ?_) | fail)
                case c2 => intro z hz; simp at hz; rcases hz with rfl | rfl | rfl <;> rfl
                case c3 => unfold maxLen; omega
                case c4 => omega
                case c5 => have := unhide HSZ6; simp; omega
                intro v' w7 hown' hgrow hfresh
                have hbA : Below w6.heap.size w6 (w6.alloc (.cells #[.int .i64 (n1 : Int), .int .i64 (n2 : Int), .string (S u)] 32)) := (Below.refl _ _).alloc (Nat.le_refl _) _
                obtain ⟨hlA, hsA⟩ := (unhide HL6).later hbA
                obtain ⟨hfarA, hrowA⟩ := (unhide HFAR6).step (unhide HROW6) hsA
                have hl7 := hlA.grown hgrow hfarA
                have hfar7 : Far w7 b lb2 v' := hfarA.grown hlA hgrow (by simpa using hfresh)
                obtain ⟨ao7, c7, rfl, _⟩ := ownsRow_slice hown'
                have hB7 : Below B w2 w7 := ((unhide HB6).trans (hbA.mono (unhide HSZ6))).grown hgrow (by have := unhide HSZ6; simp; omega) (fun q hq => by obtain ⟨cur, hc, hx⟩ := ownsRow_blk hrowA hq; exact hx)
                have HE : Hid (∃ (us' : List (List UInt8)) (D' : Dev) (ao' : Option Addr) (c' : Nat), Value.slice ao7 (us.length + 1) c7 = .slice ao' us'.length c' ∧ (∃ q, us' = tk ++ q) ∧ PD 1 14 3 us' k D' ∧ LogAt B w7 b lb2 D' (1 : Nat) (14 : Nat) (3 : Nat) ((3 + Codec.costs us' : Nat) : Int) ∧ Below B w2 w7 ∧ w7.ownsRow B 32 3 (.slice ao' us'.length c') us'.length (rcs (Codec.recs 3 us')) ∧ Far w7 b lb2 (.slice ao' us'.length c')) := by
                  refine ⟨us ++ [u], _, ao7, c7, by simp, ⟨uq ++ [u], by rw [unhide HUQ]; simp⟩, unhide HP5, hl7, hB7, ?_, ?_⟩
                  · have e1 : (us ++ [u]).length = us.length + 1 := by simp
                    rw [e1, unhide HRS, rcs_append]
                    exact hown'
                  · have e1 : (us ++ [u]).length = us.length + 1 := by simp
                    rw [e1]
                    exact hfar7
                clear hown' hgrow hfresh hbA hlA hsA hfarA hrowA hl7 hfar7 hB7 c0 c1 c2
                go_wp2_with fail
                exact ⟨⟨j + 1, by omega, by omega, by simp, unhide HE⟩, by simp [intOf]; omega⟩
              · have HL5 := hide hl5
                clear hl5
                go_wp2_with fail
                have hb56 : Below w5.heap.size w5 (w5.alloc (.cells #[.int .i64 0, .int .i64 0, .string ⟨#[]⟩] 32)) := (Below.refl _ _).alloc (Nat.le_refl _) _
                obtain ⟨hl6, hs6⟩ := (unhide HL5).later hb56
                obtain ⟨hfar6, hrow6⟩ := (unhide HFAR5).step (unhide HROW5) hs6
                exact ⟨⟨j + 1, by omega, by omega, by simp, us, D4, ao, c, rfl, ⟨uq, unhide HUQ⟩, unhide HPDj, hl6, (unhide HB5).trans (hb56.mono (unhide HSZ5)), hrow6, hfar6⟩, by simp [intOf]; omega⟩
          · have i2 : ¬ (j : Int) < 4 := by omega
            go_wp2_with fail
            go_meet
            case rel => exact ⟨us, D4, ao, c, rfl, ⟨uq, unhide HUQ⟩, unhide HPDj, unhide HLOGj, unhide HBWj, unhide HROWj, unhide HFARj⟩
        · have i1 : ¬ (j : Int) < (len1 : Int) := by omega
          go_wp2_with fail
          go_meet
          case rel => exact ⟨us, D4, ao, c, rfl, ⟨uq, unhide HUQ⟩, unhide HPDj, unhide HLOGj, unhide HBWj, unhide HROWj, unhide HFARj⟩
    case rest =>
    obtain ⟨us, D4, ao, c, rfl, ⟨uq, huq⟩, hpd, hlog, hbw, hrow, hfar⟩ := hcut
    have hcst := hpd.cst
    have hus14 := len_costs us
    obtain ⟨k2, hmk2, hk2, hscan2, _⟩ := hpd.found (by omega) (by omega) (by omega) (by omega) (D4.crash kl) (by show (lay _ _).length = 24; rw [lay_length]; exact hpd.len) (crash_can D4 kl)
    have hbwW := (unhide HB2).trans (hbw.mono (unhide HWB))
    have HCR2 := hide (crash_any hlog.dev hpd.fine.ok _ kl (unhide HK _ hbwW) (by have := hpd.wl; omega) (by rw [hpd.len]; omega) (by have := unhide HKL30; omega))
    have hF2 := hpd.fine.crash kl
    have hL2 : (D4.crash kl).L.length = 24 := by show (lay _ _).length = 24; rw [lay_length]; exact hpd.len
    have HSC2 := hide (fun wy (hd : DevAt B wy b (D4.crash kl)) => scan_ok hd 1 14 3 (by omega) (by rw [hL2]; omega) (by rw [hL2]; omega) rfl hF2.cur (by omega) (by simp [Dev.crash]))
    rw [hscan2] at HSC2
    generalize D4.crash kl = D5 at *
    obtain ⟨uk, huk⟩ : ∃ uk, us.take k2 = uk := ⟨_, rfl⟩
    have hukl : uk.length = k2 := by rw [← huk, List.length_take]; omega
    rw [huk] at HSC2
    have hn1 : ¬ (uk.length : Int) < (tk.length : Int) := by have := unhide HTKL; omega
    have hn2 : ¬ (us.length : Int) < (uk.length : Int) := by omega
    have hukus : uk.length ≤ us.length := by omega
    have HUK := hide huk
    have HLOG := hide hlog
    have HBW := hide hbw
    have HROWc := hide hrow
    have HFARc := hide hfar
    have HSZC := hide (show B ≤ wc.heap.size by have := hlog.dev.lo; have := hlog.dev.lt; omega)
    generalize 3 + Codec.costs uk = en3 at *
    unfold AV at HSC2
    clear hscan2 huk hukl hpd hlog hbw hrow hfar hbwW hF2 hL2 hmk2 hk2 huq HST HG1 HG2 HG3 HG4 i1
    go_wp2_with fail
    refine (unhide HCR2).mono ?_
    rintro e w14 ⟨rfl, hd4, hs4⟩
    have hb4 := hs4.below (unhide HLOG).dev (unhide HSZC)
    have HB4 := hide ((unhide HBW).trans hb4)
    have hx4 := ((unhide HB4).block A (unhide HAB)).trans (unhide HX2)
    have p0 := bcell hx4 0
    have p1 := bcell hx4 1
    simp only [List.getElem?_toArray, List.getElem?_cons_zero, List.getElem?_cons_succ] at p0 p1
    have HSC4 := hide (unhide HSC2 w14 hd4)
    have HD4 := hide hd4
    have HSZ4 := hide (Nat.le_trans (unhide HSZC) hs4.size)
    have hrow4 := (unhide HFARc).step (unhide HROWc) (LStep.of hs4)
    have HROW4 := hide hrow4.2
    clear hd4 hs4 hb4 hx4 hrow4 HCR2 HSC2 HLOG HBW HSZC HROWc HFARc
    go_wp2_with fail
    refine (unhide HSC4).mono ?_
    rintro e w15 ⟨v28, rfl, ho5, hb5⟩
    obtain ⟨ao8, c8, rfl, _⟩ := ownsRow_slice ho5
    rw [Codec.recs_length] at ho5
    rw [Codec.recs_length]
    have HO15 := hide ho5
    have HROW15 := hide (ownsRow_later (unhide HROW4) hb5)
    have HB15 := hide ((unhide HB4).trans (hb5.mono (unhide HSZ4)))
    have HSZ15 := hide (Nat.le_trans (unhide HSZ4) hb5.size)
    clear ho5 hb5 HSC4 HD4 HB4 HSZ4 HROW4 p0 p1
    go_wp2_with fail
    go_loopw [224, 31, 32] (fun i _ _ wr => ∃ j : Nat, j ≤ uk.length ∧ i = .int .i64 j ∧ Below w15.heap.size w15 wr) (fun i _ _ _ => uk.length - (intOf i).toNat)
    case atStart => exact ⟨0, Nat.zero_le _, rfl, Below.refl _ _⟩
    case round =>
      obtain ⟨j, hj, rfl, hbr⟩ := hrel
      by_cases hjt : j < uk.length
      · have hra := ownsRow_later (unhide HROW15) hbr
        have hrb := ownsRow_later (unhide HO15) hbr
        obtain ⟨_, _, ea, hga⟩ := ownsRow_slice hra
        obtain ⟨_, _, eb, hgb⟩ := ownsRow_slice hrb
        injection ea with ea1 ea2 ea3
        injection eb with eb1 eb2 eb3
        obtain ⟨ga, hga'⟩ := hga (by omega)
        obtain ⟨gb, hgb'⟩ := hgb (by omega)
        rw [← ea1] at hga'
        rw [← eb1] at hgb'
        subst hga' hgb'
        have hjr : j < (Codec.recs 3 uk).length := by rw [Codec.recs_length]; exact hjt
        have hjs : j < (Codec.recs 3 us).length := by rw [Codec.recs_length]; omega
        have hsame : (Codec.recs 3 uk)[j]'hjr = (Codec.recs 3 us)[j]'hjs := by
          have := unhide HUK
          subst this
          exact recs_pre us 3 k2 j hjt (by omega)
        obtain ⟨y0, y1, y2⟩ := rec_cells hrb j hjr
        rw [hsame] at y0 y1 y2
        generalize hr : (Codec.recs 3 us)[j]'hjs = r at *
        obtain ⟨w16, hw16⟩ : ∃ w16, wr.alloc (.cells #[.int .i64 (r.first : Int), .int .i64 (r.last : Int), .string (S r.text)] 32) = w16 := ⟨_, rfl⟩
        obtain ⟨RB, hRB⟩ : ∃ RB, wr.heap.size = RB := ⟨_, rfl⟩
        have hb16 : Below wr.heap.size wr w16 := by rw [← hw16]; exact (Below.refl _ _).alloc (Nat.le_refl _) _
        have hbx16 : w16.heap[RB]? = some (.cells #[.int .i64 (r.first : Int), .int .i64 (r.last : Int), .string (S r.text)] 32 (0, 0)) := by rw [← hw16, ← hRB]; exact heap_alloc_new wr _
        have c0 := bcell hbx16 0
        have c1 := bcell hbx16 1
        have c2 := bcell hbx16 2
        simp only [List.getElem?_toArray, List.getElem?_cons_zero, List.getElem?_cons_succ] at c0 c1 c2
        obtain ⟨x0, x1, x2⟩ := rec_cells (ownsRow_later hra hb16) j hjs
        rw [hr] at x0 x1 x2
        have i1 : (j : Int) < (uk.length : Int) := by omega
        have i2 : (j : Int) < (us.length : Int) := by omega
        have i3 : (0 : Int) ≤ (j : Int) := by omega
        have HBr := hide (hbr.trans (hb16.mono hbr.size))
        clear ea1 ea2 ea3 eb1 eb2 eb3 hga hgb hra hrb hbr hjr hr hsame hb16 hbx16
        go_wp2_with fail
        go_quiet (fail)
        clear x0 x1 x2 y0 y1 y2 c0 c1 c2 hw16 hRB
        go_wp2_with fail
        exact ⟨⟨j + 1, by omega, by simp, w_below_drewN (unhide HBr) _⟩, by simp [intOf]; omega⟩
      · have i1 : ¬ (j : Int) < (uk.length : Int) := by omega
        have hbB := (unhide HB15).trans (hbr.mono (unhide HSZ15))
        have hx4 := (hbB.block A (unhide HAB)).trans (unhide HX2)
        have p0 := bcell hx4 0
        have p1 := bcell hx4 1
        simp only [List.getElem?_toArray, List.getElem?_cons_zero, List.getElem?_cons_succ] at p0 p1
        have HRZ := hide (resume_zero b 1 14 wr)
        unfold AV at HRZ
        have HBF := hide ((unhide HB2).trans (hbB.mono (unhide HWB)))
        clear hbB hx4 hbr
        go_wp2_with fail
        refine (unhide HRZ).mono ?_
        rintro e w17 ⟨rfl, hb17⟩
        have HB17 := hide ((unhide HBF).trans (hb17.mono (unhide HBF).size))
        clear hb17 p0 p1
        go_wp2_with fail
        go_ret
        exact ⟨rfl, unhide HB17⟩
end Go.Proofs.YtbmhmljbpjimoaaDoor
