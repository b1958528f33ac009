/- Texts that this proof needs, one behind the other: WSecs, WRScan. -/
import Derived.Test.YtajcaglbbdbibaaGreatDoorBundleW9
import Derived.Test.YtajcaglbbdbibaaGreatDoorBundleW6
import Derived.Test.YtajcaglbbdbibaaGreatDoorBundleS12
/- The contracts of the law's sectors and of the reference's Scan. -/
namespace Go.Proofs.YtajcaglbbdbibaaGreatDoor
open Go.RowKit
set_option linter.unusedVariables false
set_option maxRecDepth 100000

def secOf (c : List UInt8) : Codec.Sec := if (Codec.parse c).2 = 0 then (Codec.parse c).1 else ⟨0, 0, []⟩
def toR (s : Codec.Sec) : Codec.Rec := ⟨s.stamp, s.mark, s.data⟩
def secL (d : Dev) (fr ln : Nat) : List Codec.Sec := (List.range ln).map fun i => secOf (d.cur (fr + i))
def secR (d : Dev) (fr ln j : Nat) : List Codec.Rec := ((secL d fr ln).take j).map toR
theorem secL_length (d : Dev) (fr ln : Nat) : (secL d fr ln).length = ln := by simp [secL]
theorem secL_get (d : Dev) (fr ln i : Nat) (h : i < ln) : (secL d fr ln)[i]'(by rw [secL_length]; exact h) = secOf (d.cur (fr + i)) := by simp [secL]
theorem secOf_ok (c : List UInt8) : (secOf c).stamp ≤ 1099511627776 ∧ (secOf c).mark ≤ 255 ∧ (secOf c).data.length ≤ 44 := by
  unfold secOf
  split
  · exact parse_bounds c ‹_›
  · simp
theorem info_rsec : (Tryz.prog.info? 81).map (fun i => (i.zero, i.size, i.bytes)) = some (some (.agg #[.int .i64 0, .int .i64 0, .string ⟨#[]⟩]), 3, 32) := by kernel_rfl
theorem under_rsecs : Tryz.prog.underlying 44 = some (.slice 81) := by kernel_rfl
theorem info_rrec : (Tryz.prog.info? 82).map (fun i => (i.zero, i.size, i.bytes)) = some (some (.agg #[.int .i64 0, .int .i64 0, .string ⟨#[]⟩]), 3, 32) := by kernel_rfl
theorem under_rrecs : Tryz.prog.underlying 41 = some (.slice 82) := by kernel_rfl
theorem rcs_snoc (l : List Codec.Rec) (r : Codec.Rec) : rcs (l ++ [r]) = rcs l ++ [.int .i64 (r.first : Int), .int .i64 (r.last : Int), .string (S r.text)] := by rw [rcs_append]; rfl
theorem three_one (a b : Int) (s : ByteArray) : ∀ u ∈ [Value.int .i64 a, .int .i64 b, .string s], u.oneCell' = true := by
  intro u hu
  simp at hu
  rcases hu with rfl | rfl | rfl <;> rfl

/- A row that grows beside a block of another type. -/
theorem block_grown {w w' : World} {base : Nat} {e : TypeId} {size : Nat} {v : Value} {n : Nat} {xs : List Value} (ho : w.ownsRow base e size v n xs) {A : Nat} {cs : Array Value} {t : TypeId} (hA : w.heap[A]? = some (.cells cs t (0, 0))) (hne : e ≠ t) (hg : w.grownBy w' v.ownBlock) : w'.heap[A]? = some (.cells cs t (0, 0)) :=
  (hg.block A (block_lt hA) (fun h => ownsRow_unlike ho hA hne h.symm)).trans hA

set_option maxHeartbeats 3200000 in
theorem wsectors_any {base : Nat} {w : World} {b : Nat} {d : Dev} (h : DevAt base w b d) (fr ln : Nat) (hfl : fr + ln ≤ d.L.length) (hm : d.L.length ≤ 65536) (hdn : d.down = false) (hcur : ∀ k, k < d.L.length → (d.cur k).length ≤ 1000) (hn : d.W.length ≤ 1099511627776) :
    Calls Tryz.prog 13 #[.pointer (some ⟨b, 0, none⟩), AV fr ln] w fun e w' => ∃ v, e = .returned v ∧ w'.ownsRow w.heap.size 81 3 v ln (rcs ((secL d fr ln).map toR)) ∧ Below w.heap.size w w' := by
  obtain ⟨i0, hi, hz0, hz1, hz2⟩ := info_parts info_rsec
  have HRD : Hid (∀ wy j, Below w.heap.size w wy → j < ln → Calls Tryz.prog 34 #[.pointer (some ⟨b, 0, none⟩), .int .i64 ((fr + j : Nat) : Int)] wy fun e w' => e = .returned (.tuple #[.string (S (d.cur (fr + j))), .int .i64 0]) ∧ Below wy.heap.size wy w') := fun wy j hb hj => by
    have := dread_any (h.later hb).1 ((fr + j : Nat) : Int) hn
    have hno : ¬ d.no ((fr + j : Nat) : Int) := by unfold Dev.no; omega
    unfold Dev.read Dev.readE at this
    rw [if_neg hno, if_neg hno, hdn, if_neg (by simp), if_neg (by simp), Int.toNat_natCast] at this
    exact this
  have HPA : Hid (∀ wy j, j < ln → Calls Tryz.prog 35 #[.string (S (d.cur (fr + j)))] wy fun e w' => e = .returned (.tuple #[RV (Codec.parse (d.cur (fr + j))).1, .int .i64 (Codec.parse (d.cur (fr + j))).2]) ∧ Below wy.heap.size wy w') := fun wy j hj => rparse_any _ wy (hcur _ (by omega))
  have HGET : Hid (∀ j (hj : j < ln), rcs (secR d fr ln (j + 1)) = rcs (secR d fr ln j) ++ [.int .i64 ((secOf (d.cur (fr + j))).stamp : Int), .int .i64 ((secOf (d.cur (fr + j))).mark : Int), .string (S (secOf (d.cur (fr + j))).data)]) := fun j hj => by
    unfold secR
    rw [List.take_succ_eq_append_getElem (by rw [secL_length]; exact hj), List.map_append, List.map_singleton, rcs_snoc, secL_get d fr ln j hj]
    rfl
  have HLN : Hid ((secL d fr ln).length = ln) := secL_length d fr ln
  have hln : ln ≤ 65536 := by omega
  have hfr : fr ≤ 65536 := by omega
  unfold AV RV at *
  obtain ⟨A, hA⟩ : ∃ A, w.heap.size = A := ⟨_, rfl⟩
  have HA := hide hA
  have HAR : Hid ((w.alloc (.cells #[.int .i64 (fr : Int), .int .i64 (ln : Int)] 26)).heap[A]? = some (.cells #[.int .i64 (fr : Int), .int .i64 (ln : Int)] 26 (0, 0))) := by rw [← hA]; exact heap_alloc_new w _
  obtain ⟨w1, hw1⟩ : ∃ w1, w.alloc (.cells #[.int .i64 (fr : Int), .int .i64 (ln : Int)] 26) = w1 := ⟨_, rfl⟩
  rw [hw1] at HAR
  have HB1 : Hid (Below w.heap.size w w1) := by rw [← hw1]; exact (Below.refl _ _).alloc (Nat.le_refl _) _
  have HAR2 : Hid ((w1.alloc (.cells #[] 81)).heap[A]? = some (.cells #[.int .i64 (fr : Int), .int .i64 (ln : Int)] 26 (0, 0))) := by rw [Below.heap_alloc w1 _ _ (block_lt (unhide HAR))]; exact unhide HAR
  have HOW : Hid ((w1.alloc (.cells #[] 81)).ownsRow w.heap.size 81 3 (.slice (some ⟨w1.heap.size, 0, none⟩) 0 0) 0 []) := World.ownsRow_lit w1 #[] 0 (unhide HB1).size (by simp [maxLen]) (by simp)
  have HB2 : Hid (Below w.heap.size w (w1.alloc (.cells #[] 81))) := (unhide HB1).alloc (unhide HB1).size _
  have p1 := bcell (unhide HAR2) 1
  have p1a := bcell (unhide HAR) 1
  simp only [List.getElem?_toArray, List.getElem?_cons_zero, List.getElem?_cons_succ] at p1 p1a
  clear hfl hm hdn hcur hn h
  go_enter Tryz.func13, Tryz.ntmps13
  go_wp2_with fail
  clear p1 p1a hw1 hA HAR
  go_loopw [5, 14] (fun v i wr => ∃ j : Nat, j ≤ ln ∧ i = .int .i64 j ∧ wr.ownsRow w.heap.size 81 3 v j (rcs (secR d fr ln j)) ∧ wr.heap[A]? = some (.cells #[.int .i64 (fr : Int), .int .i64 (ln : Int)] 26 (0, 0)) ∧ Below w.heap.size w wr) (fun _ i _ => ln - (intOf i).toNat)
  case atStart => exact ⟨0, Nat.zero_le _, rfl, unhide HOW, unhide HAR2, unhide HB2⟩
  case round =>
    obtain ⟨j, hj, rfl, ho, hx, hb⟩ := hrel
    clear HOW HAR2 HB2 HB1
    have HO := hide ho
    have HX := hide hx
    have HB := hide hb
    by_cases hlt : j < ln
    · have i1 : (j : Int) < (ln : Int) := by omega
      have i3 : (0 : Int) ≤ (j : Int) := by omega
      have hfj : (fr : Int) + (j : Int) = ((fr + j : Nat) : Int) := by omega
      have p0 := bcell hx 0
      simp only [List.getElem?_toArray, List.getElem?_cons_zero] at p0
      have HR := hide (unhide HRD wr j hb hlt)
      have HP := hide (fun wy => unhide HPA wy j hlt)
      have HG := hide (unhide HGET j hlt)
      obtain ⟨f, hf⟩ : ∃ f, fr + j = f := ⟨_, rfl⟩
      rw [hf] at HR HP HG hfj
      have HSO : Hid (secOf (d.cur f) = if (Codec.parse (d.cur f)).2 = 0 then (Codec.parse (d.cur f)).1 else ⟨0, 0, []⟩) := rfl
      generalize secOf (d.cur f) = so at *
      generalize Codec.parse (d.cur f) = pc at *
      obtain ⟨ps, pe⟩ := pc
      dsimp only at HP HSO
      generalize S (d.cur f) = sx at *
      obtain ⟨s0, hs0⟩ : ∃ s0 : Int, (so.stamp : Int) = s0 := ⟨_, rfl⟩
      obtain ⟨s1, hs1⟩ : ∃ s1 : Int, (so.mark : Int) = s1 := ⟨_, rfl⟩
      obtain ⟨sd, hsd⟩ : ∃ sd : ByteArray, S so.data = sd := ⟨_, rfl⟩
      rw [hs0, hs1, hsd] at HG
      have HSO2 : Hid ((pe = 0 → (ps.stamp : Int) = s0 ∧ (ps.mark : Int) = s1 ∧ S ps.data = sd) ∧ (¬pe = 0 → s0 = 0 ∧ s1 = 0 ∧ sd = ⟨#[]⟩)) := by
        have e := unhide HSO
        refine ⟨fun h => ?_, fun h => ?_⟩
        · rw [if_pos h] at e
          subst e
          exact ⟨hs0, hs1, hsd⟩
        · rw [if_neg h] at e
          subst e
          exact ⟨hs0.symm, hs1.symm, hsd.symm⟩
      clear HSO hs0 hs1 hsd
      obtain ⟨ao, c, rfl, _⟩ := ownsRow_slice ho
      clear ho hx hb hf
      go_wp2_with fail
      refine (unhide HR).mono ?_
      rintro e w3 ⟨rfl, hb3⟩
      have HO3 := hide (ownsRow_later (unhide HO) hb3)
      have HX3 := hide ((hb3.block A (block_lt (unhide HX))).trans (unhide HX))
      have HB3 := hide ((unhide HB).trans (hb3.mono (unhide HB).size))
      clear hb3 HR p0 HO HX HB
      go_wp2_with fail
      refine (unhide HP w3).mono ?_
      rintro e w4 ⟨rfl, hb4⟩
      obtain ⟨w6, hw6⟩ : ∃ w6, w4.alloc (.cells #[.int .i64 s0, .int .i64 s1, .string sd] 81) = w6 := ⟨_, rfl⟩
      have hb6 : Below w3.heap.size w3 w6 := by rw [← hw6]; exact hb4.alloc hb4.size _
      have HO6 := hide (ownsRow_later (unhide HO3) hb6)
      have HX6 := hide ((hb6.block A (block_lt (unhide HX3))).trans (unhide HX3))
      have HB6 := hide ((unhide HB3).trans (hb6.mono (unhide HB3).size))
      have hbx : w6.heap[w4.heap.size]? = some (.cells #[.int .i64 s0, .int .i64 s1, .string sd] 81 (0, 0)) := by rw [← hw6]; exact heap_alloc_new w4 _
      have q0 := bcell hbx 0
      have q1 := bcell hbx 1
      have q2 := bcell hbx 2
      simp only [List.getElem?_toArray, List.getElem?_cons_zero, List.getElem?_cons_succ] at q0 q1 q2
      have HO4 := hide (ownsRow_later (unhide HO3) hb4)
      have HX4 := hide ((hb4.block A (block_lt (unhide HX3))).trans (unhide HX3))
      have HB4 := hide ((unhide HB3).trans (hb4.mono (unhide HB3).size))
      clear hb4 hb6 hbx HP HO3 HX3 HB3
      by_cases hpe : pe = 0
      · obtain ⟨e1, e2, e3⟩ := (unhide HSO2).1 hpe
        subst e1 e2 e3 hpe
        clear HSO2
        go_wp2_with (first | (at_builtin; refine wpList_append_fresh rfl _ _ 44 rfl w.heap.size 81 i0 (.agg #[.int .i64 0, .int .i64 0, .string ⟨#[]⟩]) 3 32 under_rsecs hi hz0 hz1 hz2 rfl (by decide) _ _ _ rfl ((unhide HO6).alloc _) ⟨w6.heap.size, 0, none⟩ 1 1 [.int .i64 (ps.stamp : Int), .int .i64 (ps.mark : Int), .string (S ps.data)] rfl rfl (cell_three_new _ _ _ _ _) ?c2 ?c3 ?c4 ?c5 ?_) | fail)
        case c2 => exact three_one _ _ _
        case c3 => unfold maxLen; omega
        case c4 => omega
        case c5 => have := (unhide HB6).size; simp; omega
        intro v' w7 hown' hgrow _
        have HO7 : Hid (w7.ownsRow w.heap.size 81 3 v' (j + 1) (rcs (secR d fr ln (j + 1)))) := by
          show World.ownsRow _ _ _ _ _ _ _
          rw [unhide HG]; exact hown'
        have HX7 : Hid (w7.heap[A]? = some (.cells #[.int .i64 (fr : Int), .int .i64 (ln : Int)] 26 (0, 0))) := block_grown ((unhide HO6).alloc _) (by rw [Below.heap_alloc w6 _ _ (block_lt (unhide HX6))]; exact unhide HX6) (by decide) hgrow
        have HB7 : Hid (Below w.heap.size w w7) := ((unhide HB6).alloc (unhide HB6).size _).grown hgrow (by have := (unhide HB6).size; simp; omega) (fun q hq => (((unhide HO6).alloc (.cells #[] 0)).lt q hq).1)
        clear hown' hgrow q0 q1 q2 hw6
        go_wp2_with fail
        go_roundw
        case rel => exact ⟨j + 1, by omega, by go_num, unhide HO7, unhide HX7, unhide HB7⟩
        case measure => simp [intOf]; omega
      · obtain ⟨e1, e2, e3⟩ := (unhide HSO2).2 hpe
        subst e1 e2 e3
        clear HSO2
        have hpe2 : (pe != 0) = true := by rw [bne_iff_ne]; exact hpe
        clear hw6 q0 q1 q2 HO6 HX6 HB6
        have HOZ : Hid (((w4.alloc (.cells #[.int .i64 0, .int .i64 0, .string ⟨#[]⟩] 81)).alloc (.cells #[.int .i64 0, .int .i64 0, .string ⟨#[]⟩] 81)).ownsRow w.heap.size 81 3 (.slice ao j c) j (rcs (secR d fr ln j))) := ((unhide HO4).alloc _).alloc _
        go_wp2_with (first | (at_builtin; refine wpList_append_fresh rfl _ _ 44 rfl w.heap.size 81 i0 (.agg #[.int .i64 0, .int .i64 0, .string ⟨#[]⟩]) 3 32 under_rsecs hi hz0 hz1 hz2 rfl (by decide) _ _ _ rfl (unhide HOZ) ⟨w4.heap.size + 1, 0, none⟩ 1 1 [.int .i64 0, .int .i64 0, .string ⟨#[]⟩] rfl rfl ?c1 ?c2 ?c3 ?c4 ?c5 ?_) | fail)
        case c1 =>
          intro q u hu
          have := cell_three_new (w4.alloc (.cells #[.int .i64 0, .int .i64 0, .string ⟨#[]⟩] 81)) (.int .i64 0) (.int .i64 0) (.string ⟨#[]⟩) 81 q u hu
          rw [World.size_alloc] at this
          exact this
        case c2 => exact three_one _ _ _
        case c3 => unfold maxLen; omega
        case c4 => omega
        case c5 => have := (unhide HB4).size; simp; omega
        intro v' w7 hown' hgrow _
        have HO7 : Hid (w7.ownsRow w.heap.size 81 3 v' (j + 1) (rcs (secR d fr ln (j + 1)))) := by
          show World.ownsRow _ _ _ _ _ _ _
          rw [unhide HG]; exact hown'
        have HX7 : Hid (w7.heap[A]? = some (.cells #[.int .i64 (fr : Int), .int .i64 (ln : Int)] 26 (0, 0))) := block_grown (unhide HOZ) (by
          have h4 := block_lt (unhide HX4)
          rw [Below.heap_alloc _ _ _ (by rw [World.size_alloc]; omega), Below.heap_alloc w4 _ _ h4]
          exact unhide HX4) (by decide) hgrow
        have HB7 : Hid (Below w.heap.size w w7) := (((unhide HB4).alloc (unhide HB4).size _).alloc (by have := (unhide HB4).size; simp; omega) _).grown hgrow (by have := (unhide HB4).size; simp; omega) (fun q hq => ((unhide HOZ).lt q hq).1)
        clear hown' hgrow
        go_wp2_with fail
        go_roundw
        case rel => exact ⟨j + 1, by omega, by go_num, unhide HO7, unhide HX7, unhide HB7⟩
        case measure => simp [intOf]; omega
    · have : j = ln := by omega
      subst this
      have HO2 := unhide HO
      unfold secR at HO2
      rw [List.take_of_length_le (by rw [unhide HLN]; exact Nat.le_refl _)] at HO2
      replace HO2 := hide HO2
      have i1 : ¬ (j : Int) < (j : Int) := by omega
      clear ho hx hb
      go_wp2_with fail
      go_ret
      exact ⟨_, rfl, unhide HO2, unhide HB⟩
end Go.Proofs.YtajcaglbbdbibaaGreatDoor
/- The contract of the reference's Scan; a scan of a device's sectors is the reference's of their list. -/
namespace Go.Proofs.YtajcaglbbdbibaaGreatDoor
open Go.RowKit
set_option linter.unusedVariables false
set_option maxRecDepth 100000

/- What the list says at a stamp. -/
def gl (ss : List Codec.Sec) (a : Nat) : Option Codec.Sec := some (ss.getD (a % ss.length) ⟨0, 0, []⟩)
theorem scan_same {g g' : Nat → Option Codec.Sec} (hg : ∀ c, 1 ≤ c → g' c = g c ∨ (g c = none ∧ ∃ s, g' c = some s ∧ s.stamp ≠ c)) : ∀ n a o t f, 1 ≤ a → Codec.scan g' n a o t f = Codec.scan g n a o t f
  | 0, a, o, t, f, h => rfl
  | n + 1, a, o, t, f, h => by
    rcases hg a h with e | ⟨e, s, e2, hs⟩
    · simp only [Codec.scan, e]
      split
      · rfl
      · split
        · split
          · exact scan_same hg n (a + 1) true _ f (by omega)
          · rw [scan_same hg n (a + 1) false [] (a + 1) (by omega)]
        · rfl
    · rw [Codec.scan_none e, Codec.scan_not e2 (fun hf => hs hf.1)]
theorem scan_list (d : Dev) (fr ln x : Nat) (hl : 0 < ln) (hx : 1 ≤ x) : Codec.scan (gl (secL d fr ln)) ln x false [] x = Codec.scan (view d fr ln) ln x false [] x := by
  apply scan_same _ _ _ _ _ _ hx
  intro c hc
  have hm : c % ln < ln := Nat.mod_lt _ hl
  have e : gl (secL d fr ln) c = some (secOf (d.cur (fr + c % ln))) := by
    unfold gl
    rw [secL_length]
    congr 1
    have : c % ln < (secL d fr ln).length := by rw [secL_length]; exact hm
    simp only [List.getD, List.getElem?_eq_getElem this, Option.getD_some]
    exact secL_get d fr ln _ hm
  rw [e]
  unfold view
  have hp : place fr ln c = fr + c % ln := rfl
  rw [hp]
  unfold secOf
  split
  · exact .inl rfl
  · refine .inr ⟨rfl, _, rfl, ?_⟩
    show (0 : Nat) ≠ c
    omega

structure RSS (w wr : World) (v : Value) (rs : List Codec.Rec) : Prop where
  low : Below w.heap.size w wr
  row : wr.ownsRow w.heap.size 82 3 v rs.length (rcs rs)

theorem secs3_bound (ss : List Codec.Sec) (k : Nat) (hk : k < (ss.map toR).length) : ((ss.map toR)[k]'hk) = toR (ss[k]'(by simpa using hk)) := by simp

set_option maxHeartbeats 6400000 in
theorem rscan_any {base : Nat} {w : World} {v : Value} (ss : List Codec.Sec) (x : Nat) (hr : w.ownsRow base 81 3 v ss.length (rcs (ss.map toR))) (hp : 0 < ss.length) (hl : ss.length ≤ 65536) (hx : 1 ≤ x) (hx2 : x ≤ 1099511627776)
    (hok : ∀ s ∈ ss, s.stamp ≤ 1099511627776 ∧ s.mark ≤ 255 ∧ s.data.length ≤ 44) :
    Calls Tryz.prog 12 #[v, .int .i64 (x : Int)] w fun e w' => ∃ v', e = .returned (.tuple #[v', .int .i64 ((Codec.scan (gl ss) ss.length x false [] x).2 : Int)]) ∧ w'.ownsRow w.heap.size 82 3 v' (Codec.scan (gl ss) ss.length x false [] x).1.length (rcs (Codec.scan (gl ss) ss.length x false [] x).1) ∧ Below w.heap.size w w' := by
  obtain ⟨i0, hi, hz0, hz1, hz2⟩ := info_parts info_rrec
  obtain ⟨ao, c, rfl, ha⟩ := ownsRow_slice hr
  obtain ⟨g, rfl⟩ := ha (by omega)
  have HR := hide hr
  have HOK := hide hok
  have HGL : Hid (∀ a (h : a % ss.length < ss.length), gl ss a = some (ss[a % ss.length]'h)) := fun a h => by
    unfold gl
    simp [List.getD, h]
  obtain ⟨SC, hSC⟩ : ∃ SC, Codec.scan (gl ss) ss.length x false [] x = SC := ⟨_, rfl⟩
  rw [hSC]
  have HSC := hide hSC
  obtain ⟨n, hn⟩ : ∃ n, ss.length = n := ⟨_, rfl⟩
  have HN := hide hn
  rw [hn] at hp hl HR HSC ⊢
  clear hr hok hSC ha hn
  have HS0 : Hid (RSS w (w.alloc (.cells #[] 82)) (.slice (some ⟨w.heap.size, 0, none⟩) 0 0) []) := ⟨(Below.refl _ _).alloc (Nat.le_refl _) _, World.ownsRow_lit w #[] 0 (Nat.le_refl _) (by simp [maxLen]) (by simp)⟩
  go_enter Tryz.func12, Tryz.ntmps12
  go_wp2_with fail
  go_loopw [6, 7, 8, 9] (fun v s f a wr => ∃ (k : Nat) (rs : List Codec.Rec) (o : Bool) (t : List UInt8) (F : Nat), k ≤ n ∧ a = .int .i64 ((x + k : Nat) : Int) ∧ s = .string (S t) ∧ f = .int .i64 (if o then (F : Int) else 0) ∧ (o = true → 1 ≤ F ∧ F ≤ x + k) ∧ (o = false → F = x + k ∧ t = []) ∧ t.length ≤ 44 * k ∧ rs.length ≤ k ∧
      SC = (rs ++ (Codec.scan (gl ss) (n - k) (x + k) o t F).1, (Codec.scan (gl ss) (n - k) (x + k) o t F).2) ∧ RSS w wr v rs) (fun _ _ _ a _ => x + n - (intOf a).toNat)
  case atStart => exact ⟨0, [], false, [], x, Nat.zero_le _, rfl, rfl, rfl, by simp, by simp, by simp, by simp, by rw [← unhide HSC]; rfl, unhide HS0⟩
  case round =>
    obtain ⟨k, rs, o, t, F, hk, rfl, rfl, rfl, ho1, ho0, ht, hrs, hsc, hst⟩ := hrel
    clear HS0
    have HST := hide hst
    have HSCK := hide hsc
    obtain ⟨a, hax⟩ : ∃ a, x + k = a := ⟨_, rfl⟩
    rw [hax] at ho1 ho0 HSCK ⊢
    have HAX := hide hax
    by_cases hlt : k < n
    · obtain ⟨r, hrr⟩ : ∃ r, a % n = r := ⟨_, rfl⟩
      have hrn : r < n := by rw [← hrr]; exact Nat.mod_lt _ hp
      have hrs2 : r < ss.length := by rw [unhide HN]; exact hrn
      have hmod : (a : Int) % (n : Int) = (r : Int) := by rw [← hrr]; omega
      have hrow := ownsRow_later (unhide HR) hst.low
      obtain ⟨y0, y1, y2⟩ := rec3_cells hrow r (by simpa using hrs2)
      rw [secs3_bound ss r (by simpa using hrs2)] at y0 y1 y2
      dsimp only [toR] at y0 y1 y2
      have hbd := unhide HOK (ss[r]'hrs2) (List.getElem_mem hrs2)
      have HGA : Hid (gl ss a = some (ss[r]'hrs2)) := by
        have e : a % ss.length = r := by rw [unhide HN]; exact hrr
        have := unhide HGL a (by rw [e]; exact hrs2)
        simp only [e] at this
        exact this
      have HNK : Hid (n - k = (n - (k + 1)) + 1) := by show n - k = _; omega
      obtain ⟨s0, hs0⟩ : ∃ s0, ss[r]'hrs2 = s0 := ⟨_, rfl⟩
      rw [hs0] at y0 y1 y2 hbd HGA
      obtain ⟨sn, sm, sdt⟩ := s0
      dsimp only at y0 y1 y2 hbd
      obtain ⟨hb1, hb2, hb3⟩ := hbd
      have i1 : (a : Int) < (x : Int) + (n : Int) := by omega
      have i2 : (0 : Int) ≤ (a : Int) := by omega
      have i4 : (a : Int) ≤ 2199023255552 := by omega
      have r1 : (0 : Int) ≤ (r : Int) := by omega
      have r2 : (r : Int) < (n : Int) := by omega
      have nz : ((n : Int) == 0) = false := by simp; omega
      obtain ⟨w4, hw4⟩ : ∃ w4, wr.alloc (.cells #[.int .i64 (sn : Int), .int .i64 (sm : Int), .string (S sdt)] 81) = w4 := ⟨_, rfl⟩
      obtain ⟨X, hX⟩ : ∃ X, wr.heap.size = X := ⟨_, rfl⟩
      have hb4 : Below wr.heap.size wr w4 := by rw [← hw4]; exact (Below.refl _ _).alloc (Nat.le_refl _) _
      have hbx : w4.heap[X]? = some (.cells #[.int .i64 (sn : Int), .int .i64 (sm : Int), .string (S sdt)] 81 (0, 0)) := by rw [← hw4, ← hX]; exact heap_alloc_new wr _
      have q0 := bcell hbx 0
      have q1 := bcell hbx 1
      have q2 := bcell hbx 2
      simp only [List.getElem?_toArray, List.getElem?_cons_zero, List.getElem?_cons_succ] at q0 q1 q2
      obtain ⟨av, ac, rfl, _⟩ := ownsRow_slice hst.row
      have HS4 : Hid (RSS w w4 (.slice av rs.length ac) rs) := ⟨hst.low.trans (hb4.mono hst.low.size), ownsRow_later hst.row hb4⟩
      have hpar : (sm : Int) % 2 = 1 ∨ (sm : Int) % 2 = 0 := by omega
      have hF0 : o = true → ((F : Int) == 0) = false := fun h => by have := ho1 h; simp; omega
      clear hst hrow hs0 hb4 hbx hsc hax hrr
      have hcas : ¬ Codec.fits ⟨sn, sm, sdt⟩ a o ∨ (sn = a ∧ sm ≤ 3 ∧ (sm % 2 = 0 ↔ o = true)) := by
        by_cases h : Codec.fits ⟨sn, sm, sdt⟩ a o
        · exact .inr h
        · exact .inl h
      rcases hcas with hnf | ⟨hsa, hm3, hpo⟩
      · have HEX : Hid (SC = (rs, F)) := by
          have := unhide HSCK
          rw [Codec.scan_not (unhide HGA) hnf, List.append_nil] at this
          exact this
        have hnf2 : ¬ sn = a ∨ (sn = a ∧ ¬ sm ≤ 3) ∨ (sn = a ∧ sm ≤ 3 ∧ ¬ (sm % 2 = 0 ↔ o = true)) := by
          unfold Codec.fits at hnf
          dsimp only at hnf
          by_cases h1 : sn = a
          · by_cases h2 : sm ≤ 3
            · exact .inr (.inr ⟨h1, h2, fun h => hnf ⟨h1, h2, h⟩⟩)
            · exact .inr (.inl ⟨h1, h2⟩)
          · exact .inl h1
        clear hnf HSCK
        cases o with
        | true =>
          obtain ⟨hF1, hF2⟩ := ho1 rfl
          have hFp : (0 : Int) < (F : Int) := by omega
          have hFz := hF0 rfl
          clear ho1 ho0 hF0
          simp only [if_true]
          have hfin : ∀ wx, wx = w4 → (∃ v', Ending.returned (.tuple #[.slice av rs.length ac, .int .i64 (F : Int)]) = .returned (.tuple #[v', .int .i64 (SC.2 : Int)]) ∧ wx.ownsRow w.heap.size 82 3 v' SC.1.length (rcs SC.1) ∧ Below w.heap.size w wx) := by
            rintro wx rfl
            rw [unhide HEX]
            exact ⟨_, rfl, (unhide HS4).row, (unhide HS4).low⟩
          have HFIN := hide hfin
          clear hfin
          rcases hnf2 with h1 | ⟨h1, h2⟩ | ⟨h1, h2, h3⟩
          · have e1 : ((sn : Int) != (a : Int)) = true := by rw [bne_iff_ne]; omega
            rcases hpar with hp2 | hp2
            all_goals
              go_wp2_with fail
              exact bodyPost_ret (v := .tuple #[.slice av rs.length ac, .int .i64 (F : Int)]) (by simp [results, Tryz.results12, go_sem]) rfl (unhide HFIN _ rfl)
          · subst h1
            have e1 : (3 : Int) < (sm : Int) := by omega
            rcases hpar with hp2 | hp2
            all_goals
              go_wp2_with fail
              exact bodyPost_ret (v := .tuple #[.slice av rs.length ac, .int .i64 (F : Int)]) (by simp [results, Tryz.results12, go_sem]) rfl (unhide HFIN _ rfl)
          · subst h1
            have e1 : (sm : Int) ≤ 3 := by omega
            have e2 : (sm : Int) % 2 = 1 := by
              have : ¬ sm % 2 = 0 := fun h => h3 ⟨fun _ => rfl, fun _ => h⟩
              omega
            clear hpar
            go_wp2_with fail
            exact bodyPost_ret (v := .tuple #[.slice av rs.length ac, .int .i64 (F : Int)]) (by simp [results, Tryz.results12, go_sem]) rfl (unhide HFIN _ rfl)
        | false =>
          obtain ⟨hF1, hF2⟩ := ho0 rfl
          clear ho1 ho0 hF0
          simp only [Bool.false_eq_true, if_false]
          have hfin : ∀ wx, wx = w4 → (∃ v', Ending.returned (.tuple #[.slice av rs.length ac, .int .i64 (a : Int)]) = .returned (.tuple #[v', .int .i64 (SC.2 : Int)]) ∧ wx.ownsRow w.heap.size 82 3 v' SC.1.length (rcs SC.1) ∧ Below w.heap.size w wx) := by
            rintro wx rfl
            rw [unhide HEX, hF1]
            exact ⟨_, rfl, (unhide HS4).row, (unhide HS4).low⟩
          have HFIN := hide hfin
          clear hfin hF1
          rcases hnf2 with h1 | ⟨h1, h2⟩ | ⟨h1, h2, h3⟩
          · have e1 : ((sn : Int) != (a : Int)) = true := by rw [bne_iff_ne]; omega
            rcases hpar with hp2 | hp2
            all_goals
              go_wp2_with fail
              exact bodyPost_ret (v := .tuple #[.slice av rs.length ac, .int .i64 (a : Int)]) (by simp [results, Tryz.results12, go_sem]) rfl (unhide HFIN _ rfl)
          · subst h1
            have e1 : (3 : Int) < (sm : Int) := by omega
            rcases hpar with hp2 | hp2
            all_goals
              go_wp2_with fail
              exact bodyPost_ret (v := .tuple #[.slice av rs.length ac, .int .i64 (sn : Int)]) (by simp [results, Tryz.results12, go_sem]) rfl (unhide HFIN _ rfl)
          · subst h1
            have e1 : (sm : Int) ≤ 3 := by omega
            have e2 : (sm : Int) % 2 = 0 := by
              have : sm % 2 = 0 := by
                rcases Nat.mod_two_eq_zero_or_one sm with h | h
                · exact h
                · exact absurd ⟨fun h0 => by omega, fun h0 => by cases h0⟩ h3
              omega
            clear hpar
            go_wp2_with fail
            exact bodyPost_ret (v := .tuple #[.slice av rs.length ac, .int .i64 (sn : Int)]) (by simp [results, Tryz.results12, go_sem]) rfl (unhide HFIN _ rfl)
      · subst hsa
        have HFI : Hid (Codec.fits ⟨sn, sm, sdt⟩ sn o) := ⟨rfl, hm3, hpo⟩
        have HA1 : Hid (x + (k + 1) = sn + 1) := by have := unhide HAX; show x + (k + 1) = sn + 1; omega
        have hTl : (t ++ sdt).length ≤ 44 * (k + 1) := by rw [List.length_append]; omega
        have hcc : S t ++ S sdt = S (t ++ sdt) := by
          apply ByteArray.ext
          simp [S]
        have hz1' : (S t).size = t.length := rfl
        have hz2' : (S sdt).size = sdt.length := rfl
        have hno : ¬ 9223372036854775807 < (S t).size + (S sdt).size := by rw [hz1', hz2']; omega
        obtain ⟨T, hT⟩ : ∃ T, t ++ sdt = T := ⟨_, rfl⟩
        rw [hT] at hTl hcc
        have HTT := hide hT
        clear hT hz1' hz2' hpar
        cases o with
        | true =>
          obtain ⟨hF1, hF2⟩ := ho1 rfl
          have hFp : (0 : Int) < (F : Int) := by omega
          have hFz := hF0 rfl
          have hev : sm % 2 = 0 := hpo.2 rfl
          have e2 : (sm : Int) % 2 = 0 := by omega
          clear ho1 ho0 hF0 hpo
          simp only [if_true]
          have hsm : sm < 2 ∨ ¬ sm < 2 := by omega
          rcases hsm with hm2 | hm2
          · have e3 : ¬ (1 : Int) < (sm : Int) := by omega
            have HAPP : Hid (SC = (rs ++ (Codec.scan (gl ss) (n - (k + 1)) (sn + 1) true T F).1, (Codec.scan (gl ss) (n - (k + 1)) (sn + 1) true T F).2)) := by
              have := unhide HSCK
              rw [unhide HNK, Codec.scan_open (unhide HGA) (unhide HFI) hm2] at this
              dsimp only at this
              rw [unhide HTT] at this
              exact this
            go_wp2_with fail
            refine ⟨⟨k + 1, rs, true, T, F, by omega, by rw [unhide HA1]; go_num, rfl, rfl, fun _ => ⟨by omega, by rw [unhide HA1]; omega⟩, by simp, by omega, by omega, by rw [unhide HA1]; exact unhide HAPP, unhide HS4⟩, ?_⟩
            simp [intOf]
            omega
          · have e3 : (1 : Int) < (sm : Int) := by omega
            have HAPP : Hid (SC = ((rs ++ [⟨F, sn, T⟩]) ++ (Codec.scan (gl ss) (n - (k + 1)) (sn + 1) false [] (sn + 1)).1, (Codec.scan (gl ss) (n - (k + 1)) (sn + 1) false [] (sn + 1)).2)) := by
              have := unhide HSCK
              rw [unhide HNK, Codec.scan_whole (unhide HGA) (unhide HFI) hm2] at this
              dsimp only at this
              rw [unhide HTT] at this
              show SC = _
              rw [this, List.append_assoc]
              rfl
            go_wp2_with (first | (at_builtin; refine wpList_append_fresh rfl _ _ 41 rfl w.heap.size 82 i0 (.agg #[.int .i64 0, .int .i64 0, .string ⟨#[]⟩]) 3 32 under_rrecs hi hz0 hz1 hz2 rfl (by decide) _ _ _ rfl ((unhide HS4).row.alloc _) ⟨w4.heap.size, 0, none⟩ 1 1 [.int .i64 (F : Int), .int .i64 (sn : Int), .string (S T)] rfl rfl (cell_three_new _ _ _ _ _) ?c2 ?c3 ?c4 ?c5 ?_) | fail)
            case c2 => exact three_one _ _ _
            case c3 => unfold maxLen; omega
            case c4 => omega
            case c5 => have := (unhide HS4).low.size; simp; omega
            intro v' w7 hown' hgrow _
            have HS7 : Hid (RSS w w7 v' (rs ++ [⟨F, sn, T⟩])) := by
              refine ⟨((unhide HS4).low.alloc (unhide HS4).low.size _).grown hgrow (by have := (unhide HS4).low.size; simp; omega) (fun q hq => ((unhide HS4).row.lt q hq).1), ?_⟩
              rw [rcs_snoc, List.length_append]
              exact hown'
            clear hown' hgrow q0 q1 q2 hw4 hX
            go_wp2_with fail
            refine ⟨⟨k + 1, _, false, [], sn + 1, by omega, by rw [unhide HA1]; go_num, rfl, rfl, by simp, fun _ => ⟨(unhide HA1).symm, rfl⟩, by simp, by simp; omega, by rw [unhide HA1]; exact unhide HAPP, unhide HS7⟩, ?_⟩
            simp [intOf]
            omega
        | false =>
          obtain ⟨hF1, hF2⟩ := ho0 rfl
          have hsn1 : 1 ≤ sn := by have := unhide HAX; omega
          have HSCK2 := unhide HSCK
          rw [hF1] at HSCK2
          replace HSCK := hide HSCK2
          clear hF1 HSCK2 hF2
          have hev : sm % 2 = 1 := by
            have : ¬ sm % 2 = 0 := fun h => by have := hpo.1 h; cases this
            omega
          have e2 : (sm : Int) % 2 = 1 := by omega
          clear ho1 ho0 hF0 hpo
          simp only [Bool.false_eq_true, if_false]
          have hsm : sm < 2 ∨ ¬ sm < 2 := by omega
          rcases hsm with hm2 | hm2
          · have e3 : ¬ (1 : Int) < (sm : Int) := by omega
            have HAPP : Hid (SC = (rs ++ (Codec.scan (gl ss) (n - (k + 1)) (sn + 1) true T sn).1, (Codec.scan (gl ss) (n - (k + 1)) (sn + 1) true T sn).2)) := by
              have := unhide HSCK
              rw [unhide HNK, Codec.scan_open (unhide HGA) (unhide HFI) hm2] at this
              dsimp only at this
              rw [unhide HTT] at this
              exact this
            go_wp2_with fail
            refine ⟨⟨k + 1, rs, true, T, sn, by omega, by rw [unhide HA1]; go_num, rfl, rfl, fun _ => ⟨by omega, by rw [unhide HA1]; omega⟩, by simp, by omega, by omega, by rw [unhide HA1]; exact unhide HAPP, unhide HS4⟩, ?_⟩
            simp [intOf]
            omega
          · have e3 : (1 : Int) < (sm : Int) := by omega
            have HAPP : Hid (SC = ((rs ++ [⟨sn, sn, T⟩]) ++ (Codec.scan (gl ss) (n - (k + 1)) (sn + 1) false [] (sn + 1)).1, (Codec.scan (gl ss) (n - (k + 1)) (sn + 1) false [] (sn + 1)).2)) := by
              have := unhide HSCK
              rw [unhide HNK, Codec.scan_whole (unhide HGA) (unhide HFI) hm2] at this
              dsimp only at this
              rw [unhide HTT] at this
              show SC = _
              rw [this, List.append_assoc]
              rfl
            go_wp2_with (first | (at_builtin; refine wpList_append_fresh rfl _ _ 41 rfl w.heap.size 82 i0 (.agg #[.int .i64 0, .int .i64 0, .string ⟨#[]⟩]) 3 32 under_rrecs hi hz0 hz1 hz2 rfl (by decide) _ _ _ rfl ((unhide HS4).row.alloc _) ⟨w4.heap.size, 0, none⟩ 1 1 [.int .i64 (sn : Int), .int .i64 (sn : Int), .string (S T)] rfl rfl (cell_three_new _ _ _ _ _) ?c2 ?c3 ?c4 ?c5 ?_) | fail)
            case c2 => exact three_one _ _ _
            case c3 => unfold maxLen; omega
            case c4 => omega
            case c5 => have := (unhide HS4).low.size; simp; omega
            intro v' w7 hown' hgrow _
            have HS7 : Hid (RSS w w7 v' (rs ++ [⟨sn, sn, T⟩])) := by
              refine ⟨((unhide HS4).low.alloc (unhide HS4).low.size _).grown hgrow (by have := (unhide HS4).low.size; simp; omega) (fun q hq => ((unhide HS4).row.lt q hq).1), ?_⟩
              rw [rcs_snoc, List.length_append]
              exact hown'
            clear hown' hgrow q0 q1 q2 hw4 hX
            go_wp2_with fail
            refine ⟨⟨k + 1, _, false, [], sn + 1, by omega, by rw [unhide HA1]; go_num, rfl, rfl, by simp, fun _ => ⟨(unhide HA1).symm, rfl⟩, by simp, by simp; omega, by rw [unhide HA1]; exact unhide HAPP, unhide HS7⟩, ?_⟩
            simp [intOf]
            omega
    · have hkn : k = n := by omega
      subst hkn
      have HEX : Hid (SC = (rs, F)) := by
        have := unhide HSCK
        rw [Nat.sub_self, show Codec.scan (gl ss) 0 a o t F = ([], F) from rfl, List.append_nil] at this
        exact this
      have i1 : ¬ (a : Int) < (x : Int) + (k : Int) := by have := unhide HAX; omega
      have hxk : (x : Int) + (k : Int) = (a : Int) := by have := unhide HAX; omega
      obtain ⟨av, ac, rfl, _⟩ := ownsRow_slice hst.row
      clear hst hsc HSCK hax
      cases o with
      | true =>
        obtain ⟨hF1, hF2⟩ := ho1 rfl
        have hFp : (0 : Int) < (F : Int) := by omega
        clear ho1 ho0
        simp only [if_true]
        have HFIN : Hid (∃ v', Ending.returned (.tuple #[.slice av rs.length ac, .int .i64 (F : Int)]) = .returned (.tuple #[v', .int .i64 (SC.2 : Int)]) ∧ wr.ownsRow w.heap.size 82 3 v' SC.1.length (rcs SC.1) ∧ Below w.heap.size w wr) := by
          show ∃ v', _
          rw [unhide HEX]
          exact ⟨_, rfl, (unhide HST).row, (unhide HST).low⟩
        go_wp2_with fail
        exact bodyPost_ret (v := .tuple #[.slice av rs.length ac, .int .i64 (F : Int)]) (by simp [results, Tryz.results12, go_sem]) rfl (unhide HFIN)
      | false =>
        obtain ⟨hF1, hF2⟩ := ho0 rfl
        clear ho1 ho0
        simp only [Bool.false_eq_true, if_false]
        have HFIN : Hid (∃ v', Ending.returned (.tuple #[.slice av rs.length ac, .int .i64 (a : Int)]) = .returned (.tuple #[v', .int .i64 (SC.2 : Int)]) ∧ wr.ownsRow w.heap.size 82 3 v' SC.1.length (rcs SC.1) ∧ Below w.heap.size w wr) := by
          show ∃ v', _
          rw [unhide HEX, hF1]
          exact ⟨_, rfl, (unhide HST).row, (unhide HST).low⟩
        clear hF1
        go_wp2_with fail
        exact bodyPost_ret (v := .tuple #[.slice av rs.length ac, .int .i64 (a : Int)]) (by simp [results, Tryz.results12, go_sem]) rfl (unhide HFIN)
end Go.Proofs.YtajcaglbbdbibaaGreatDoor
