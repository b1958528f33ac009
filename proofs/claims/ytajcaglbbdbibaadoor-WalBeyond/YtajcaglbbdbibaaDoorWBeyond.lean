/- WalBeyond's walk. -/
import Derived.Test.YtajcaglbbdbibaaDoorWPrefix
import Derived.Test.YtajcaglbbdbibaaDoorWBey
namespace Go.Proofs.YtajcaglbbdbibaaDoor
open Go.RowKit
set_option linter.unusedVariables false
set_option maxRecDepth 100000

theorem scan_up {g : Nat → Option Codec.Sec} : ∀ n a o t f, f ≤ a → (Codec.scan g n a o t f).2 ≤ a + n ∧ f ≤ (Codec.scan g n a o t f).2
  | 0, a, o, t, f, h => ⟨h, Nat.le_refl _⟩
  | n + 1, a, o, t, f, h => by
    unfold Codec.scan
    split
    · exact ⟨by show f ≤ _; omega, Nat.le_refl _⟩
    · split
      · split
        · have := scan_up (g := g) n (a + 1) true (t ++ ‹Codec.Sec›.data) f (by omega)
          omega
        · have := scan_up (g := g) n (a + 1) false [] (a + 1) (Nat.le_refl _)
          show (Codec.scan g n (a + 1) false [] (a + 1)).2 ≤ _ ∧ f ≤ (Codec.scan g n (a + 1) false [] (a + 1)).2
          omega
      · exact ⟨by show f ≤ _; omega, Nat.le_refl _⟩
theorem OD.mono {N m m' : Nat} {D : Dev} (h : OD N m D) (hm : m ≤ m') : OD N m' D := ⟨h.dn, h.ar, h.lf, h.len, h.fine, by have := h.wl; omega, by have := h.cl; omega, h.old⟩
/- Numbers that came in, the first 30 at most. -/
theorem few30 {w : World} {a3 : Option Addr} {len3 cap3 : Nat} {l3 : List Int} (hlen : l3.length = len3) (hr : NumRow w (.slice a3 len3 cap3) l3) : ∀ u, Below w.heap.size w u → (30 < len3 → NumRow u (.slice a3 30 cap3) (l3.take 30)) ∧ (¬ 30 < len3 → NumRow u (.slice a3 len3 cap3) (l3.take 30)) := fun u hu => by
  refine ⟨fun h30 => ?_, fun h30 => ?_⟩
  · obtain ⟨ao', c', e, hrow⟩ := hr.later hu
    refine ⟨a3, cap3, ?_, fun j hj => ?_⟩
    · rw [List.length_take, hlen, Nat.min_eq_left (by omega)]
    · have hj2 : j < l3.length := by rw [List.length_take] at hj; omega
      injection e with e1 e2 e3
      subst e1
      obtain ⟨bk, off, h1, h2⟩ := hrow j hj2
      refine ⟨bk, off, h1, ?_⟩
      rw [h2]
      congr 2
      simp
  · have e : l3.take 30 = l3 := List.take_of_length_le (by omega)
    rw [e]
    exact hr.later hu

set_option maxRecDepth 100000 in
set_option maxHeartbeats 12800000 in
theorem walBeyond_walk (a1 : Option Addr) (len1 cap1 : Nat) (z1 : List ByteArray) (w : World) (w1 : IsStrs w a1 len1 cap1 z1) (a2 : Option Addr) (len2 cap2 : Nat) (z2 : List ByteArray) (w2 : IsStrs w a2 len2 cap2 z2)
    (a3 : Option Addr) (len3 cap3 : Nat) (z3 : List Int) (w3 : IsInts w a3 len3 cap3 z3) (a4 : Option Addr) (len4 cap4 : Nat) (z4 : List Int) (w4 : IsInts w a4 len4 cap4 z4) :
    Calls Tryd.prog 5 #[.slice a1 len1 cap1, .slice a2 len2 cap2, .slice a3 len3 cap3, .slice a4 len4 cap4] w fun e w' => e = .returned (.bool true) ∧ Below w.heap.size w w' := by
  obtain ⟨l1, hl1, hm1, _, hr1⟩ := w1.norm
  obtain ⟨l2, hl2, hm2, _, hr2⟩ := w2.norm
  obtain ⟨l3, hl3, hm3, hc3, hr3⟩ := w3.norm
  obtain ⟨l4, hl4, hm4, hc4, hr4⟩ := w4.norm
  clear w1 w2 w3 w4
  unfold maxLen at hm1 hm2 hm3 hm4
  have HAW := hide (fun w => wawake_any w)
  have HBG := hide (fun wy => begin_log 0 12 5 wy (by omega) (by unfold areaE; simp [Dev.new]) (by omega) (by omega))
  unfold AV at HBG
  have HR1 := hide hr1
  have HR2 := hide hr2
  have HK3 := hide (few30 hl3 hr3)
  have HK4 := hide (few30 hl4 hr4)
  have hk3 : (l3.take 30).length ≤ 30 := by rw [List.length_take]; omega
  have hk4 : (l4.take 30).length ≤ 30 := by rw [List.length_take]; omega
  generalize l3.take 30 = kl3 at *
  generalize l4.take 30 = kl4 at *
  have HL1 := hide hl1
  have HL2 := hide hl2
  obtain ⟨i0, hi, hz0, hz1, hz2'⟩ := info_parts info_string
  clear hr1 hr2 hr3 hr4 hl1 hl2 hl3 hl4
  go_enter Tryd.func5, Tryd.ntmps5
  go_wp2_with fail
  refine (unhide HAW _).mono ?_
  rintro e w1 ⟨rfl, hb1⟩
  obtain ⟨w2, hw2⟩ : ∃ w2, w1.alloc (.cells #[.int .i64 0, .int .i64 12] 25) = w2 := ⟨_, rfl⟩
  obtain ⟨A, hA⟩ : ∃ A, w1.heap.size = A := ⟨_, rfl⟩
  have hb12 : Below w.heap.size w w2 := by rw [← hw2]; exact hb1.alloc hb1.size _
  have hx2' : w2.heap[A]? = some (.cells #[.int .i64 0, .int .i64 12] 25 (0, 0)) := by rw [← hw2, ← hA]; exact heap_alloc_new w1 _
  have p0 := bcell hx2' 0
  have p1 := bcell hx2' 1
  simp only [List.getElem?_toArray, List.getElem?_cons_zero, List.getElem?_cons_succ] at p0 p1
  have HX2 := hide hx2'
  have HB2 := hide hb12
  clear hb1 hx2' hb12 HAW
  go_wp2_with fail
  refine (unhide HBG _).mono ?_
  rintro e w3 ⟨b, lb, rfl, hl3, hb3⟩
  obtain ⟨B, hB⟩ : ∃ B, w2.heap.size = B := ⟨_, rfl⟩
  rw [hB] at hl3 hb3
  have HAB : Hid (A < B) := by rw [← hB]; exact block_lt (unhide HX2)
  have HWB : Hid (w.heap.size ≤ B) := by rw [← hB]; exact (unhide HB2).size
  have HLG := hide (show LogAt B w3 b lb (Dev.new 24) ((0 : Nat) : Int) ((12 : Nat) : Int) ((5 : Nat) : Int) ((5 : Nat) : Int) from hl3)
  have HLW := hide hb3
  clear hl3 hb3 HBG hw2 hA hB p0 p1
  go_upto_block 0 with fail
  go_cut [13] (fun _ wx => ∃ (x head m : Nat) (D : Dev), m ≤ 27 ∧ 5 ≤ head ∧ head ≤ x ∧ x ≤ head + 12 ∧ x ≤ 32 ∧ OD x m D ∧ LogAt B wx b lb D ((0 : Nat) : Int) ((12 : Nat) : Int) (head : Int) (x : Int) ∧ Below B w2 wx)
  case first =>
    go_wp2_with fail
    go_loopw [13] (fun i wr => ∃ j : Nat, j ≤ len1 ∧ j ≤ 9 ∧ i = .int .i64 j ∧ ∃ (x head m : Nat) (D : Dev), m ≤ 3 * j ∧ 5 ≤ head ∧ head ≤ x ∧ x ≤ head + 12 ∧ x ≤ 5 + 3 * j ∧ OD x m D ∧ LogAt B wr b lb D ((0 : Nat) : Int) ((12 : Nat) : Int) (head : Int) (x : Int) ∧ Below B w2 wr) (fun i _ => 9 - (intOf i).toNat)
    case atStart => exact ⟨0, Nat.zero_le _, Nat.zero_le _, rfl, 5, 5, 0, Dev.new 24, by omega, by omega, by omega, by omega, by omega, OD.new 5, unhide HLG, unhide HLW⟩
    case round =>
      obtain ⟨j, hj0, hj9, rfl, x, head, m, D, hm, hh5, hhx, hxh, hxj, hod, hlg, hlow⟩ := hrel
      clear HLG HLW
      have HOD := hide hod
      have HLG := hide hlg
      have HLW := hide hlow
      have HSZ : Hid (B ≤ wr.heap.size) := by have := hlg.dev.lo; have := hlg.dev.lt; show B ≤ _; omega
      by_cases hlt0 : j < len1
      · have i1 : (j : Int) < (len1 : Int) := by omega
        by_cases hlt9 : j < 9
        · have hjL : j < l1.length := by have := unhide HL1; omega
          obtain ⟨bk, off, rfl, hc0⟩ := (unhide HR1).later ((unhide HB2).trans (hlow.mono (unhide HWB))) j hjL
          have i2 : (j : Int) < 9 := by omega
          have i3 : (0 : Int) ≤ (j : Int) := by omega
          generalize l1[j]'hjL = t at *
          have HCUT := hide (fun wy => dcut_any t 120 wy)
          obtain ⟨u, hu⟩ : ∃ u, t.take 120 = u := ⟨_, rfl⟩
          have hu120 : u.length ≤ 120 := by rw [← hu, List.length_take]; omega
          rw [hu] at HCUT
          have hcu : Codec.cost u.length ≤ 3 := Codec.cost_le _ _ (by omega) (by omega)
          have HAPP := hide (od_append hod hlg u (unhide HSZ) (by omega) (by omega) (by omega) (by omega) (by omega) hhx hxh (by omega))
          clear hu hlow hod hlg
          go_wp2_with fail
          refine (unhide HCUT _).mono ?_
          rintro e w4 ⟨rfl, rfl⟩
          clear HCUT hc0
          go_wp2_with fail
          refine (unhide HAPP).mono ?_
          rintro e w5 ⟨er, q0, q1, qt, x', D', rfl, hod', hlg', hx1, hx2, hx3, hst⟩
          have HLW5 := hide ((unhide HLW).trans (hst.below (unhide HLG) (unhide HSZ)))
          have HOD5 := hide hod'
          have HLG5 := hide hlg'
          clear hst HAPP HOD HLG HLW
          have hand := w_mask2 (j : Int) 1 1 (by omega) (by decide)
          have hpar : ((j : Int) % ((2 ^ 1 : Nat) : Int) = 1 ∨ (j : Int) % ((2 ^ 1 : Nat) : Int) = 0) := by omega
          rcases hpar with hp | hp
          · rw [hp] at hand
            have HNX := hide (next_any hlg'.log)
            have HTR := hide (trim_ok hlg'.log (x' : Int) (by omega) (by omega))
            obtain ⟨hlt, hst⟩ := hlg'.setHead (x' : Int)
            have HLT := hide hlt
            have HLWT := hide ((unhide HLW5).trans (hst.below hlg' (by have := hlg'.dev.lo; have := hlg'.dev.lt; omega)))
            clear hod' hlg' hlt hst hp
            go_wp2_with fail
            refine (unhide HNX).mono ?_
            rintro e w6 ⟨rfl, rfl⟩
            go_wp2_with fail
            refine (unhide HTR).mono ?_
            rintro e w7 ⟨rfl, rfl⟩
            go_wp2_with fail
            exact ⟨⟨j + 1, by omega, by omega, by simp, x', x', m + Codec.cost u.length, D', by omega, by omega, by omega, by omega, by omega, unhide HOD5, unhide HLT, unhide HLWT⟩, by simp [intOf]; omega⟩
          · rw [hp] at hand
            clear hod' hlg' hp
            go_wp2_with fail
            exact ⟨⟨j + 1, by omega, by omega, by simp, x', head, m + Codec.cost u.length, D', by omega, by omega, by omega, by omega, by omega, unhide HOD5, unhide HLG5, unhide HLW5⟩, by simp [intOf]; omega⟩
        · have i2 : ¬ (j : Int) < 9 := by omega
          clear hod hlg hlow
          go_wp2_with fail
          go_meet
          case rel => exact ⟨x, head, m, D, by omega, by omega, by omega, by omega, by omega, unhide HOD, unhide HLG, unhide HLW⟩
      · have i1 : ¬ (j : Int) < (len1 : Int) := by omega
        clear hod hlg hlow
        go_wp2_with fail
        go_meet
        case rel => exact ⟨x, head, m, D, by omega, by omega, by omega, by omega, by omega, unhide HOD, unhide HLG, unhide HLW⟩
  case rest =>
  obtain ⟨x, head, m, D, hm, hh5, hhx, hxh, hx32, hod, hlg, hlow⟩ := hcut
  clear HLG HLW
  have HOD := hide hod
  have HLG := hide hlg
  have HLW := hide hlow
  have HSZ : Hid (B ≤ wc.heap.size) := by have := hlg.dev.lo; have := hlg.dev.lt; show B ≤ _; omega
  clear hod hlg hlow
  go_upto_if 71 with fail
  go_cut [2] (fun s2 wx => ∃ (kn kc : Nat), s2 = .slice a3 kn kc ∧ wx = wc ∧ (∀ u, Below w.heap.size w u → NumRow u (.slice a3 kn kc) kl3))
  case first =>
    by_cases h30 : 30 < len3
    · have h30i : (30 : Int) < (len3 : Int) := by omega
      have h30c : (30 : Int) ≤ (cap3 : Int) := by omega
      go_wp2_with fail
      go_meet
      case rel => exact ⟨30, cap3, rfl, rfl, fun u hu => (unhide HK3 u hu).1 h30⟩
    · have h30i : ¬ (30 : Int) < (len3 : Int) := by omega
      go_wp2_with fail
      go_meet
      case rel => exact ⟨len3, cap3, rfl, rfl, fun u hu => (unhide HK3 u hu).2 h30⟩
  case rest =>
  obtain ⟨kn3, kc3, rfl, rfl, hk3r⟩ := hcut
  have HKR3 := hide hk3r
  clear hk3r HK3
  go_upto_if 76 with fail
  go_cut [3] (fun s3 wx => ∃ (kn kc : Nat), s3 = .slice a4 kn kc ∧ wx = wc ∧ (∀ u, Below w.heap.size w u → NumRow u (.slice a4 kn kc) kl4))
  case first =>
    by_cases h30 : 30 < len4
    · have h30i : (30 : Int) < (len4 : Int) := by omega
      have h30c : (30 : Int) ≤ (cap4 : Int) := by omega
      go_wp2_with fail
      go_meet
      case rel => exact ⟨30, cap4, rfl, rfl, fun u hu => (unhide HK4 u hu).1 h30⟩
    · have h30i : ¬ (30 : Int) < (len4 : Int) := by omega
      go_wp2_with fail
      go_meet
      case rel => exact ⟨len4, cap4, rfl, rfl, fun u hu => (unhide HK4 u hu).2 h30⟩
  case rest =>
  obtain ⟨kn4, kc4, rfl, rfl, hk4r⟩ := hcut
  have HKR4 := hide hk4r
  clear hk4r HK4
  have HHD := hide (head_any (unhide HLG).log)
  have hlg := unhide HLG
  have hod := unhide HOD
  have hbW := (unhide HB2).trans ((unhide HLW).mono (unhide HWB))
  have HCR := hide (crash_any hlg.dev hod.fine.ok _ kl3 (unhide HKR3 _ hbW) (by have := hod.wl; omega) (by rw [hod.len]; omega) (by omega))
  have hod1 := hod.crash kl3
  have hW1 : (D.crash kl3).W = [] := rfl
  have HSC := hide (fun wy (hd : DevAt B wy b (D.crash kl3)) => scan_ok hd 0 12 head (by omega) (by rw [hod1.len]; omega) (by rw [hod1.len]; omega) rfl hod1.fine.cur (by omega) (by simp [Dev.crash]))
  obtain ⟨hup, hlo⟩ := scan_up (g := view (D.crash kl3) 0 12) 12 head false [] head (Nat.le_refl _)
  generalize Codec.scan (view (D.crash kl3) 0 12) 12 head false [] head = sc at *
  obtain ⟨rs, en⟩ := sc
  dsimp only at hup hlo HSC
  obtain ⟨x2, hx2⟩ : ∃ x2, en + 12 = x2 := ⟨_, rfl⟩
  have hpd := hod1.start hW1 (by omega) 0 12 x2 (by omega)
  generalize D.crash kl3 = D2 at *
  have HPD := hide hpd
  have hx2e : (en : Int) + 12 = (x2 : Int) := by omega
  have hx2b : 1 ≤ x2 ∧ x2 ≤ 100 := by omega
  have HDL : Hid (D2.L.length = 24) := hod1.len
  have HBY := hide (fun wy => beyond_any 0 12 en wy (by omega) (by omega))
  have HOP := hide (fun wy (hd : DevAt B wy b D2) (hB : B ≤ wy.heap.size) => open_ok hd 0 12 (x2 : Int) (by rw [hod1.len]; omega) (by omega) (by unfold areaE; rw [hod1.len]; simp) (by omega) (by omega) hB)
  obtain ⟨kq, _, hkq, hsc2, _⟩ := hpd.found (by omega) (by omega) (by omega) (by omega) D2 hod1.len (fun k c hc => hc)
  have hkq0 : kq = 0 := by simpa using hkq
  subst hkq0
  rw [show Codec.recs x2 (([] : List (List UInt8)).take 0) = [] from rfl, show Codec.costs (([] : List (List UInt8)).take 0) = 0 from rfl, Nat.add_zero] at hsc2
  have HS2 := hide (fun wy (hd : DevAt B wy b D2) => scan_ok hd 0 12 x2 (by omega) (by rw [hod1.len]; omega) (by rw [hod1.len]; omega) hod1.dn hod1.fine.cur (by omega) (by rw [hW1]; simp))
  rw [hsc2] at HS2
  unfold AV at HSC HOP HS2 HBY
  clear hsc2 hpd hod1 hW1 hod hlg hbW hkq
  go_wp2_with fail
  refine (unhide HHD).mono ?_
  rintro e w4 ⟨rfl, rfl⟩
  clear HHD
  go_wp2_with fail
  refine (unhide HCR).mono ?_
  rintro e w5 ⟨rfl, hd5, hs5⟩
  have HLW5 := hide ((unhide HLW).trans (hs5.below (unhide HLG).dev (unhide HSZ)))
  have HSZ5 := hide (Nat.le_trans (unhide HSZ) hs5.size)
  have HD5 := hide hd5
  have hx5 := ((unhide HLW5).block A (unhide HAB)).trans (unhide HX2)
  have p0 := bcell hx5 0
  have p1 := bcell hx5 1
  simp only [List.getElem?_toArray, List.getElem?_cons_zero, List.getElem?_cons_succ] at p0 p1
  clear hd5 hs5 hx5 HCR HLW HLG HOD HSZ HKR3
  go_wp2_with fail
  refine (unhide HSC _ (unhide HD5)).mono ?_
  rintro e w6 ⟨v6, rfl, ho6, hb6⟩
  obtain ⟨ao6, c6, rfl, _⟩ := ownsRow_slice ho6
  have HD6 := hide ((unhide HD5).later hb6).1
  have HLW6 := hide ((unhide HLW5).trans (hb6.mono (unhide HSZ5)))
  have HSZ6 := hide (Nat.le_trans (unhide HSZ5) hb6.size)
  have hx6 := ((unhide HLW6).block A (unhide HAB)).trans (unhide HX2)
  clear p0 p1
  have p0 := bcell hx6 0
  have p1 := bcell hx6 1
  simp only [List.getElem?_toArray, List.getElem?_cons_zero, List.getElem?_cons_succ] at p0 p1
  generalize rs.length = rn at *
  have hA6 := block_lt hx6
  clear ho6 hb6 hx6 HSC HLW5 HD5 HSZ5
  go_upto_region 20 with fail
  go_cut [18, 19] (fun s18 s19 wx => ∃ lb2, s18 = .pointer (some ⟨lb2, 0, none⟩) ∧ s19 = .int .i64 0 ∧ LogAt B wx b lb2 D2 ((0 : Nat) : Int) ((12 : Nat) : Int) (x2 : Int) (x2 : Int) ∧ Below B w2 wx)
  case first =>
    go_region_with (first
      | (go_at_call 23; refine (unhide HBY _).mono ?_; rintro e wq ⟨rfl, hbq⟩; have HBQ := hide (below_undrew hbq); have pq0 := ((unhide HBQ).cell (p := ⟨A, 0, none⟩) hA6).trans p0; have pq1 := ((unhide HBQ).cell (p := ⟨A, 1, none⟩) hA6).trans p1; clear hbq)
      | (go_at_call 22; refine (unhide HOP _ ((unhide HD6).later (unhide HBQ)).1 (Nat.le_trans (unhide HSZ6) (unhide HBQ).size)).mono ?_; rintro e w7 ⟨lb2, rfl, hlb2, hl7, hb7⟩; have HE7 := hide (And.intro hl7 (show Below B w2 w7 from (unhide HLW6).trans (((unhide HBQ).trans (hb7.mono (unhide HBQ).size)).mono (unhide HSZ6)))); clear hlb2 hl7 hb7))
    all_goals
      go_wp2_with fail
      go_meet
      case rel => exact ⟨lb2, rfl, rfl, (unhide HE7).1, (unhide HE7).2⟩
  case rest =>
  obtain ⟨lb2, rfl, rfl, hl7, hlow7⟩ := hcut
  have HNX := hide (next_any hl7.log)
  have HL7 := hide hl7
  have HLW7 := hide hlow7
  have HSZ7 : Hid (B ≤ wc.heap.size) := by have := hl7.dev.lo; have := hl7.dev.lt; show B ≤ _; omega
  have hx7 := (hlow7.block A (unhide HAB)).trans (unhide HX2)
  clear p0 p1
  have p0 := bcell hx7 0
  have p1 := bcell hx7 1
  simp only [List.getElem?_toArray, List.getElem?_cons_zero, List.getElem?_cons_succ] at p0 p1
  have b1 : ((x2 : Int) != (x2 : Int)) = false := by simp
  clear hl7 hlow7 hx7 HBY HOP HD6 HLW6 HSZ6
  go_wp2_with fail
  refine (unhide HNX).mono ?_
  rintro e w8 ⟨rfl, rfl⟩
  go_wp2_with fail
  refine (unhide HNX).mono ?_
  rintro e w8 ⟨rfl, rfl⟩
  clear HNX
  go_wp2_with fail
  refine (unhide HS2 _ (unhide HL7).dev).mono ?_
  rintro e w9 ⟨v9, rfl, ho9, hb9⟩
  obtain ⟨ao9, c9, rfl, _⟩ := ownsRow_slice ho9
  obtain ⟨hl9, hs9⟩ := (unhide HL7).later hb9
  have HTS2 : Hid (TS B w2 w9 b lb2 0 12 x2 [] 0 D2 (.slice none 0 0)) := ⟨unhide HPD, hl9, (unhide HLW7).trans (hb9.mono (unhide HSZ7)), World.ownsRow_nil _ _ _ _, Far.nil⟩
  rw [List.length_nil]
  clear ho9 hb9 hl9 hs9 HS2 HL7 HLW7 HSZ7 HPD p0 p1
  go_upto_block 2 with fail
  go_cut [24, 25, 26, 27, 28] (fun s24 _ _ _ _ wx => ∃ (ts : List (List UInt8)) (D : Dev) (ao : Option Addr) (c : Nat), s24 = .slice ao ts.length c ∧ TS B w2 wx b lb2 0 12 x2 ts 0 D (.slice ao ts.length c))
  case first =>
    go_wp2_with fail
    go_loopw [24, 25, 26, 27, 28] (fun v i _ _ _ wr => ∃ j : Nat, j ≤ len2 ∧ j ≤ 4 ∧ i = .int .i64 j ∧ ∃ (ts : List (List UInt8)) (D : Dev) (ao : Option Addr) (c : Nat), v = .slice ao ts.length c ∧ TS B w2 wr b lb2 0 12 x2 ts 0 D (.slice ao ts.length c)) (fun _ i _ _ _ _ => 4 - (intOf i).toNat)
    case atStart => exact ⟨0, Nat.zero_le _, Nat.zero_le _, rfl, [], D2, none, 0, rfl, unhide HTS2⟩
    case round =>
      obtain ⟨j, hj0, hj4, rfl, ts, D, ao, c, rfl, hts⟩ := hrel
      clear HTS2
      have hcst := hts.pd.cst
      have hus20 := len_costs ts
      have HTSj := hide hts
      have hlow := hts.low
      clear hts
      by_cases hlt0 : j < len2
      · have i1 : (j : Int) < (len2 : Int) := by omega
        by_cases hlt4 : j < 4
        · have hjL : j < l2.length := by have := unhide HL2; omega
          obtain ⟨bk, off, rfl, hc0⟩ := (unhide HR2).later ((unhide HB2).trans (hlow.mono (unhide HWB))) j hjL
          have i2 : (j : Int) < 4 := by omega
          have i3 : (0 : Int) ≤ (j : Int) := by omega
          generalize l2[j]'hjL = t at *
          have HCUT := hide (fun wy => dcut_any t 80 wy)
          obtain ⟨u, hu⟩ : ∃ u, t.take 80 = u := ⟨_, rfl⟩
          have hu100 : u.length ≤ 80 := by rw [← hu, List.length_take]; omega
          rw [hu] at HCUT
          have HAPP := hide (append_law (unhide HTSj).pd (unhide HTSj).log u (unhide HTSj).sz (by omega) (by omega) (by omega) (by omega) (by omega))
          clear hu hlow
          go_wp2_with fail
          refine (unhide HCUT _).mono ?_
          rintro e w4 ⟨rfl, rfl⟩
          clear HCUT hc0
          go_wp2_with fail
          refine (unhide HAPP).mono ?_
          rintro e w5 ⟨er, q0, q1, qt, rfl, hst5, hor⟩
          have hb5 := hst5.below (unhide HTSj).log (unhide HTSj).sz
          obtain ⟨hfar5, hrow5⟩ := (unhide HTSj).far.step (unhide HTSj).row hst5
          have hlow5 := (unhide HTSj).low.trans hb5
          have HSZ5 := hide (Nat.le_trans (unhide HTSj).sz hst5.size)
          clear hb5 hst5 HAPP
          rcases hor with ⟨rfl, hfit, rfl, rfl, rfl, hp5, hl5⟩ | ⟨rfl, hnf, rfl, rfl, rfl, hl5⟩
          · obtain ⟨n1, hn1⟩ : ∃ n1, x2 + Codec.costs ts = n1 := ⟨_, rfl⟩
            obtain ⟨n2, hn2⟩ : ∃ n2, x2 + Codec.costs ts + Codec.cost u.length - 1 = n2 := ⟨_, rfl⟩
            rw [hn2, hn1]
            obtain ⟨w6, hw6⟩ : ∃ w6, w5.alloc (.cells #[.int .i64 (n1 : Int), .int .i64 (n2 : Int), .string (S u)] 37) = w6 := ⟨_, rfl⟩
            have hb56 : Below w5.heap.size w5 w6 := by rw [← hw6]; exact (Below.refl _ _).alloc (Nat.le_refl _) _
            obtain ⟨hl6, hs6⟩ := hl5.later hb56
            obtain ⟨hfar6, hrow6⟩ := hfar5.step hrow5 hs6
            have hbA : Below w6.heap.size w6 (w6.alloc (.cells #[.string (S u)] 9)) := (Below.refl _ _).alloc (Nat.le_refl _) _
            obtain ⟨hlA, hsA⟩ := hl6.later hbA
            obtain ⟨hfarA, hrowA⟩ := hfar6.step hrow6 hsA
            have hlowA : Below B w2 (w6.alloc (.cells #[.string (S u)] 9)) := (hlow5.trans (hb56.mono (unhide HSZ5))).trans (hbA.mono (by have := unhide HSZ5; have := hb56.size; omega))
            have hcs : Codec.costs (ts ++ [u]) = Codec.costs ts + Codec.cost u.length := by rw [Codec.costs_append]; simp [Codec.costs]
            have HROWA := hide hrowA
            have HALL := hide (And.intro hp5 (And.intro hlA (And.intro hlowA hfarA)))
            have HSZA : Hid (B ≤ w6.heap.size) := Nat.le_trans (unhide HSZ5) hb56.size
            clear hp5 hl5 hl6 hs6 hfar5 hrow5 hfar6 hrow6 hb56 hbA hlA hsA hfarA hrowA hlow5 hlowA hcs hn1 hn2
            go_wp2_with (first | (at_builtin; refine wpList_append_fresh rfl _ _ 50 rfl B 9 i0 (.string ⟨#[]⟩) 1 16 under_strings hi hz0 hz1 hz2' rfl (by decide) _ _ _ rfl (unhide HROWA) ⟨w6.heap.size, 0, none⟩ 1 1 [.string (S u)] rfl rfl (w_cell_one _ _ _) ?c2 ?c3 ?c4 ?c5 ?_) | fail)
            case c2 => intro y hy; simp at hy; subst hy; rfl
            case c3 => unfold maxLen; omega
            case c4 => omega
            case c5 => have := unhide HSZA; simp; omega
            intro v' w7 hown' hgrow hfresh
            obtain ⟨k1, k2, k3, k4⟩ := unhide HALL
            have hts7 := (unhide HTSj).grown k1 k2 k3 (unhide HROWA) k4 hown' hgrow (by simpa using hfresh)
            obtain ⟨ao7, c7, rfl, _⟩ := ownsRow_slice hown'
            have HE : Hid (∃ (ts' : List (List UInt8)) (D' : Dev) (ao' : Option Addr) (c' : Nat), Value.slice ao7 (ts.length + 1) c7 = .slice ao' ts'.length c' ∧ TS B w2 w7 b lb2 0 12 x2 ts' 0 D' (.slice ao' ts'.length c')) := by
              have e1 : (ts ++ [u]).length = ts.length + 1 := by simp
              exact ⟨ts ++ [u], _, ao7, c7, by rw [e1], by rw [e1]; exact hts7⟩
            clear hown' hgrow hfresh k1 k2 k3 k4 hts7
            go_wp2_with fail
            exact ⟨⟨j + 1, by omega, by omega, by simp, unhide HE⟩, by simp [intOf]; omega⟩
          · have HTS5 : Hid (TS B w2 w5 b lb2 0 12 x2 ts 0 D (.slice ao ts.length c)) := ⟨(unhide HTSj).pd, hl5, hlow5, hrow5, hfar5⟩
            clear hl5 hlow5 hrow5 hfar5
            go_wp2_with fail
            exact ⟨⟨j + 1, by omega, by omega, by simp, ts, D, ao, c, rfl, (unhide HTS5).later ((Below.refl _ _).alloc (Nat.le_refl _) _)⟩, by simp [intOf]; omega⟩
        · have i2 : ¬ (j : Int) < 4 := by omega
          go_wp2_with fail
          go_meet
          case rel => exact ⟨ts, D, ao, c, rfl, unhide HTSj⟩
      · have i1 : ¬ (j : Int) < (len2 : Int) := by omega
        go_wp2_with fail
        go_meet
        case rel => exact ⟨ts, D, ao, c, rfl, unhide HTSj⟩
  case rest =>
  obtain ⟨ts, D, ao, c, rfl, hts⟩ := hcut
  have hcst2 := hts.pd.cst
  have hus20 := len_costs ts
  have HTSd := hide hts
  obtain ⟨k2, hmk2, hk2, hscan2, _⟩ := hts.pd.found (by omega) (by omega) (by omega) (by omega) (D.crash kl4) (by show (lay _ _).length = 24; rw [lay_length]; exact hts.pd.len) (crash_can D kl4)
  have hbwW := (unhide HB2).trans (hts.low.mono (unhide HWB))
  have HCR2 := hide (crash_any hts.log.dev hts.pd.fine.ok _ kl4 (unhide HKR4 _ hbwW) (by have := hts.pd.wl; omega) (by rw [hts.pd.len]; omega) (by omega))
  have hF2 := hts.pd.fine.crash kl4
  have hL2 : (D.crash kl4).L.length = 24 := by show (lay _ _).length = 24; rw [lay_length]; exact hts.pd.len
  have HSC2 := hide (fun wy (hd : DevAt B wy b (D.crash kl4)) => scan_ok hd 0 12 x2 (by omega) (by rw [hL2]; omega) (by rw [hL2]; omega) rfl hF2.cur (by omega) (by simp [Dev.crash]))
  rw [hscan2] at HSC2
  generalize D.crash kl4 = D5 at *
  obtain ⟨uk, huk⟩ : ∃ uk, ts.take k2 = uk := ⟨_, rfl⟩
  have hukl : uk.length = k2 := by rw [← huk, List.length_take]; omega
  rw [huk] at HSC2
  have hn2 : ¬ (ts.length : Int) < (uk.length : Int) := by omega
  have hukus : uk.length ≤ ts.length := by omega
  have HUK := hide huk
  have HUKL := hide hukl
  obtain ⟨en3, hen3⟩ : ∃ en3, x2 + Codec.costs uk = en3 := ⟨_, rfl⟩
  rw [hen3] at HSC2
  unfold AV at HSC2
  clear hscan2 huk hukl hen3 hts hbwW hF2 hL2 hmk2 hk2 HKR4 HTS2
  go_wp2_with fail
  refine (unhide HCR2).mono ?_
  rintro e w14 ⟨rfl, hd4, hs4⟩
  have hb4 := hs4.below (unhide HTSd).log.dev (unhide HTSd).sz
  have HB4 := hide ((unhide HTSd).low.trans hb4)
  have hx4 := ((unhide HB4).block A (unhide HAB)).trans (unhide HX2)
  have p0 := bcell hx4 0
  have p1 := bcell hx4 1
  simp only [List.getElem?_toArray, List.getElem?_cons_zero, List.getElem?_cons_succ] at p0 p1
  have HSC4 := hide (unhide HSC2 w14 hd4)
  have HSZ4 := hide (Nat.le_trans (unhide HTSd).sz hs4.size)
  have hrow4 := (unhide HTSd).far.step (unhide HTSd).row (LStep.of hs4)
  have HROW4 := hide hrow4.2
  clear hd4 hs4 hb4 hx4 hrow4 HCR2 HSC2 HTSd
  go_wp2_with fail
  refine (unhide HSC4).mono ?_
  rintro e w15 ⟨v28, rfl, ho5, hb5⟩
  obtain ⟨ao8, c8, rfl, _⟩ := ownsRow_slice ho5
  rw [Codec.recs_length] at ho5
  rw [Codec.recs_length]
  have HO15 := hide ho5
  have HROW15 := hide (ownsRow_later (unhide HROW4) hb5)
  have HB15 := hide ((unhide HB4).trans (hb5.mono (unhide HSZ4)))
  have HSZ15 := hide (Nat.le_trans (unhide HSZ4) hb5.size)
  clear ho5 hb5 HSC4 HB4 HSZ4 HROW4 p0 p1
  go_wp2_with fail
  go_loopw [185, 32, 33] (fun i _ _ wr => ∃ j : Nat, j ≤ uk.length ∧ i = .int .i64 j ∧ Below w15.heap.size w15 wr) (fun i _ _ _ => uk.length - (intOf i).toNat)
  case atStart => exact ⟨0, Nat.zero_le _, rfl, Below.refl _ _⟩
  case round =>
    obtain ⟨j, hj, rfl, hbr⟩ := hrel
    by_cases hjt : j < uk.length
    · have hra := ownsRow_later (unhide HROW15) hbr
      have hrb := ownsRow_later (unhide HO15) hbr
      obtain ⟨_, _, ea, hga⟩ := ownsRow_slice hra
      obtain ⟨_, _, eb, hgb⟩ := ownsRow_slice hrb
      injection ea with ea1 ea2 ea3
      injection eb with eb1 eb2 eb3
      obtain ⟨ga, hga'⟩ := hga (by omega)
      obtain ⟨gb, hgb'⟩ := hgb (by omega)
      rw [← ea1] at hga'
      rw [← eb1] at hgb'
      subst hga' hgb'
      have hjts : j < ts.length := by omega
      have hjr : j < (Codec.recs x2 uk).length := by rw [Codec.recs_length]; exact hjt
      have hjs : j < (Codec.recs x2 ts).length := by rw [Codec.recs_length]; omega
      have hsame : (Codec.recs x2 uk)[j]'hjr = ⟨x2 + Codec.costs (ts.take j), x2 + Codec.costs (ts.take j) + Codec.cost (ts[j]'hjts).length - 1, ts[j]'hjts⟩ := by
        have h1 : (Codec.recs x2 uk)[j]'hjr = (Codec.recs x2 ts)[j]'hjs := by
          have := unhide HUK
          subst this
          exact recs_pre ts x2 k2 j hjt hjts
        have h2 := recs_get ts x2 j hjts
        rw [List.getElem?_eq_getElem hjs] at h2
        rw [h1]
        exact Option.some.inj h2
      obtain ⟨y0, y1, y2⟩ := rec_cells hrb j hjr
      rw [hsame] at y0 y1 y2
      dsimp only at y0 y1 y2
      have hxt := ownsRow_cell hra (g := ga) (c := c) rfl j (.string (S (ts[j]'hjts))) (by simp [secs, List.getElem?_eq_getElem hjts])
      generalize ts[j]'hjts = t at *
      generalize x2 + Codec.costs (ts.take j) + Codec.cost t.length - 1 = n2 at *
      generalize x2 + Codec.costs (ts.take j) = n0 at *
      have i1 : (j : Int) < (uk.length : Int) := by omega
      have i2 : (j : Int) < (ts.length : Int) := by omega
      have i3 : (0 : Int) ≤ (j : Int) := by omega
      have hse : ((S t).toList == (S t).toList) = true := by simp
      obtain ⟨w16, hw16⟩ : ∃ w16, wr.alloc (.cells #[.int .i64 (n0 : Int), .int .i64 (n2 : Int), .string (S t)] 37) = w16 := ⟨_, rfl⟩
      obtain ⟨RB, hRB⟩ : ∃ RB, wr.heap.size = RB := ⟨_, rfl⟩
      have hb16 : Below wr.heap.size wr w16 := by rw [← hw16]; exact (Below.refl _ _).alloc (Nat.le_refl _) _
      have hbx16 : w16.heap[RB]? = some (.cells #[.int .i64 (n0 : Int), .int .i64 (n2 : Int), .string (S t)] 37 (0, 0)) := by rw [← hw16, ← hRB]; exact heap_alloc_new wr _
      have d2 := bcell hbx16 2
      simp only [List.getElem?_toArray, List.getElem?_cons_zero, List.getElem?_cons_succ] at d2
      have x0 := (hb16.cell (p := ⟨ga, j, none⟩) (cell_lt hxt)).trans hxt
      have HBr := hide (hbr.trans (hb16.mono hbr.size))
      clear ea1 ea2 ea3 eb1 eb2 eb3 hga hgb hra hrb hbr hjr hjs hsame hb16 hbx16 hxt
      go_wp2_with fail
      go_quiet (fail)
      clear x0 y0 y1 y2 d2 hw16 hRB hse
      go_wp2_with fail
      exact ⟨⟨j + 1, by omega, by simp, w_below_drewN (unhide HBr) _⟩, by simp [intOf]; omega⟩
    · have i1 : ¬ (j : Int) < (uk.length : Int) := by omega
      have HBF := hide ((unhide HB2).trans (((unhide HB15).trans (hbr.mono (unhide HSZ15))).mono (unhide HWB)))
      clear hbr
      go_wp2_with fail
      go_ret
      exact ⟨rfl, unhide HBF⟩
end Go.Proofs.YtajcaglbbdbibaaDoor
