/- The contracts of wipe and Resume. -/
import Derived.Test.YtkohcfmbfafkgabDoorWScan2
import Derived.Test.YtkohcfmbfafkgabDoorWRow
namespace Go.Proofs.YtkohcfmbfafkgabDoor
open Go.RowKit
set_option linter.unusedVariables false
set_option maxRecDepth 100000

def Dev.wipes (fr ln : Nat) : Nat → Nat → Dev → Dev × Int
  | 0, _, d => (d.flush, d.flushE)
  | n + 1, a, d => if d.writeE ((place fr ln a : Nat) : Int) [] ≠ 0 then (d.write ((place fr ln a : Nat) : Int) [], d.writeE ((place fr ln a : Nat) : Int) []) else Dev.wipes fr ln n (a + 1) (d.write ((place fr ln a : Nat) : Int) [])

set_option maxRecDepth 4000 in
set_option maxHeartbeats 3200000 in
theorem wipe_any {base : Nat} {w : World} {b : Nat} {d : Dev} (h : DevAt base w b d) (fr ln x n : Nat) (hB : base ≤ w.heap.size) (h2 : 2 ≤ ln) (hfl : fr + ln ≤ d.L.length) (hm : d.L.length ≤ 65536) (hF : Fine d) (hx : x + n ≤ 2199023255552) (hn : n ≤ ln) (hl : d.left < 9223372036854775808) (hc : d.calls ≤ 1099511627776) (hW : d.W.length ≤ 549755813888) :
    Calls Tryd.prog 30 #[.pointer (some ⟨b, 0, none⟩), AV fr ln, .int .i64 (x : Int), .int .i64 ((x + n : Nat) : Int)] w fun e w' => e = .returned (.int .i64 (Dev.wipes fr ln n x d).2) ∧ DevAt base w' b (Dev.wipes fr ln n x d).1 ∧ DStep b w w' := by
  have HPL := hide (fun a wy (hy : a ≤ 4398046511104) => place_any fr ln a wy (by omega) (by omega) (by omega) hy)
  obtain ⟨P, hP⟩ : ∃ P, Dev.wipes fr ln n x d = P := ⟨_, rfl⟩
  rw [hP]
  have HP := hide hP
  obtain ⟨q, hq⟩ : ∃ q, x + n = q := ⟨_, rfl⟩
  rw [hq]
  have HQ := hide hq
  have hq2 : q ≤ 2199023255552 := by omega
  obtain ⟨w0, hw0⟩ : ∃ w0, w.alloc (.cells #[.int .i64 (fr : Int), .int .i64 (ln : Int)] 26) = w0 := ⟨_, rfl⟩
  have hb0 : Below w.heap.size w w0 := by rw [← hw0]; exact (Below.refl _ _).alloc (Nat.le_refl _) _
  obtain ⟨A, hA⟩ : ∃ A, w.heap.size = A := ⟨_, rfl⟩
  have hx0 : w0.heap[A]? = some (.cells #[.int .i64 (fr : Int), .int .i64 (ln : Int)] 26 (0, 0)) := by rw [← hw0, ← hA]; exact heap_alloc_new w _
  obtain ⟨hd0, hs0⟩ := h.later hb0
  have hfA : DFor w0 b A := (DFor.new h (by omega)).same (hb0.block b h.lt)
  have HX0 := hide hx0
  have HD0 := hide hd0
  have HS0 := hide hs0
  have HFA := hide hfA
  have HB0 := hide (Nat.le_trans hB hb0.size)
  have HLD : Hid (∀ (D : Dev), D.L.length = d.L.length → (d.L.length ≤ 65536)) := fun D _ => hm
  clear hP hq hx0 hd0 hs0 hfA hb0
  unfold AV at *
  go_enter Tryd.func30, Tryd.ntmps30
  go_wp2_with fail
  clear hw0 hA
  go_loopw [9] (fun i wr => ∃ (j : Nat) (D : Dev), j ≤ n ∧ i = .int .i64 ((x + j : Nat) : Int) ∧ Dev.wipes fr ln n x d = Dev.wipes fr ln (n - j) (x + j) D ∧ DevAt base wr b D ∧ DStep b w0 wr ∧ D.left ≤ d.left ∧ D.calls ≤ d.calls + j ∧ D.W.length ≤ d.W.length + j ∧ D.L = d.L ∧ Fine D) (fun i _ => x + n - (intOf i).toNat)
  case atStart => exact ⟨0, d, Nat.zero_le _, rfl, rfl, unhide HD0, DStep.refl _ _, Nat.le_refl _, Nat.le_refl _, Nat.le_refl _, rfl, hF⟩
  case round =>
    obtain ⟨j, D, hj, rfl, hwi, hdr, hst, hD1, hD2, hD3, hD4, hD5⟩ := hrel
    obtain ⟨a, hax⟩ : ∃ a, x + j = a := ⟨_, rfl⟩
    rw [hax]
    have HDR := hide hdr
    have HST := hide hst
    obtain ⟨kA1, kA2⟩ := hst.keep A (block_lt (unhide HX0)) (unhide HFA)
    have hxr := kA1.trans (unhide HX0)
    have p0 := bcell hxr 0
    have p1 := bcell hxr 1
    simp only [List.getElem?_toArray, List.getElem?_cons_zero, List.getElem?_cons_succ] at p0 p1
    have hBr : base ≤ wr.heap.size := Nat.le_trans (unhide HB0) hst.size
    have HBR := hide hBr
    clear HD0 hdr hst kA1 kA2 hxr hBr
    by_cases hlt : j < n
    · have hqq := unhide HQ
      have hle : (a : Int) < (q : Int) := by omega
      obtain ⟨n', hn'⟩ : ∃ n', n - j = n' + 1 := ⟨n - j - 1, by omega⟩
      have hwi2 := hwi
      rw [hn', Dev.wipes, hax] at hwi2
      have HWR := hide (fun wy (hd : DevAt base wy b D) (hBy : base ≤ wy.heap.size) => write_any hd ((place fr ln a : Nat) : Int) [] (by omega) (by omega) (by omega) hBy)
      have hg := write_grows D ((place fr ln a : Nat) : Int) []
      have hLW : (D.write ((place fr ln a : Nat) : Int) []).L = D.L ∧ Fine (D.write ((place fr ln a : Nat) : Int) []) := by
        have hp := place_lt fr ln a D.L.length (by omega) (by rw [hD4]; exact hfl)
        have hno : ¬ (D.no ((place fr ln a : Nat) : Int) ∨ 64 < ([] : List UInt8).length) := by
          intro hx
          rcases hx with hx | hx
          · unfold Dev.no at hx; omega
          · simp at hx
        unfold Dev.write
        rw [if_neg hno]
        unfold Dev.begin
        by_cases ho : D.out
        · rw [if_pos ho, if_pos ho]
          exact ⟨rfl, hD5.writes [] (by simp) _ rfl (by simp)⟩
        · rw [if_neg ho, if_neg ho]
          exact ⟨rfl, hD5.writes [(((place fr ln a : Nat) : Int).toNat, whole [])] (by intro y hy; simp at hy; subst hy; exact ⟨by simpa using hp, whole_length _⟩) _ rfl rfl⟩
      generalize D.writeE ((place fr ln a : Nat) : Int) [] = E at *
      generalize D.write ((place fr ln a : Nat) : Int) [] = D1 at *
      have ha40 : a ≤ 4398046511104 := by omega
      have HPA := hide (unhide HPL a wr ha40)
      generalize place fr ln a = pl at *
      have HWI2 := hide hwi2
      have HG := hide hg
      have HLW := hide hLW
      have HN := hide hn'
      have HAX := hide hax
      have hS0 : S [] = (⟨#[]⟩ : ByteArray) := rfl
      rw [hS0] at HWR
      clear hwi hwi2 hg hLW hn' hax hqq hS0
      go_wp2_with fail
      refine (unhide HPA).mono ?_
      rintro e w3 ⟨rfl, hb3⟩
      obtain ⟨hd3, hs3⟩ := (unhide HDR).later hb3
      have HW3 := hide (unhide HWR w3 hd3 (Nat.le_trans (unhide HBR) hb3.size))
      have HS3 := hide ((unhide HST).trans hs3)
      clear hb3 hd3 hs3 HPA HWR p0 p1
      go_wp2_with fail
      refine (unhide HW3).mono ?_
      rintro e w4 ⟨rfl, hd4, hs4⟩
      have HD4 := hide hd4
      have HS4 := hide ((unhide HS3).trans hs4)
      clear hd4 hs4 HW3 HS3
      by_cases hE : E = 0
      · subst hE
        go_wp2_with fail
        have hg := unhide HG
        have hLW := unhide HLW
        refine ⟨⟨j + 1, D1, by omega, by have := unhide HAX; simp; omega, ?_, unhide HD4, unhide HS4, by omega, by omega, by omega, hLW.1.trans hD4, hLW.2⟩, ?_⟩
        · have := unhide HWI2
          rw [if_neg (by simp)] at this
          rw [this, show n - (j + 1) = n' by have := unhide HN; omega, show x + (j + 1) = a + 1 by have := unhide HAX; omega]
        · have := unhide HAX
          have := unhide HQ
          simp [intOf]
          omega
      · have hEb : (E != 0) = true := by simpa using hE
        have hPE : P = (D1, E) := by rw [← unhide HP, unhide HWI2, if_pos hE]
        have HPE := hide hPE
        clear hPE hE
        go_wp2_with fail
        go_ret
        rw [unhide HPE]
        exact ⟨rfl, unhide HD4, (unhide HS0).trans (unhide HS4)⟩
    · have hjn : j = n := by omega
      have hqq := unhide HQ
      have hle : ¬ (a : Int) < (q : Int) := by omega
      have hPE : P = (D.flush, D.flushE) := by
        rw [← unhide HP, hwi, hjn, Nat.sub_self]
        rfl
      have HPE := hide hPE
      have HFL := hide (flush_any (unhide HDR) hD5.ok (by omega) (by omega) (by omega) (by rw [hD4]; omega))
      generalize D.flushE = E at *
      clear hPE hwi hjn hqq hax
      go_wp2_with fail
      refine (unhide HFL).mono ?_
      rintro e w3 ⟨rfl, hd3, hs3⟩
      have HE := hide (show DevAt base w3 b D.flush ∧ DStep b w w3 from ⟨hd3, ((unhide HS0).trans (unhide HST)).trans hs3⟩)
      clear hd3 hs3 HFL
      go_wp2_with fail
      go_ret
      rw [unhide HPE]
      exact ⟨rfl, unhide HE⟩

/- What Resume leaves: the device, its error. -/
def Dev.resumes (fr ln x : Nat) (d : Dev) : Dev × Int := Dev.wipes fr ln (x + ln - (Codec.scan (view d fr ln) ln x false [] x).2) (Codec.scan (view d fr ln) ln x false [] x).2 d
theorem scan_end {g : Nat → Option Codec.Sec} : ∀ n a o t f, f ≤ a → f ≤ (Codec.scan g n a o t f).2 ∧ (Codec.scan g n a o t f).2 ≤ a + n
  | 0, a, o, t, f, h => ⟨Nat.le_refl _, h⟩
  | n + 1, a, o, t, f, h => by
    cases e : g a with
    | none => rw [Codec.scan_none e]; exact ⟨Nat.le_refl _, by show f ≤ _; omega⟩
    | some x =>
      by_cases hf : Codec.fits x a o
      · by_cases hm : x.mark < 2
        · rw [Codec.scan_open e hf hm]
          have := scan_end (g := g) n (a + 1) true (t ++ x.data) f (by omega)
          exact ⟨this.1, by omega⟩
        · rw [Codec.scan_whole e hf hm]
          have := scan_end (g := g) n (a + 1) false [] (a + 1) (Nat.le_refl _)
          exact ⟨by show f ≤ (Codec.scan g n (a + 1) false [] (a + 1)).2; omega, by show (Codec.scan g n (a + 1) false [] (a + 1)).2 ≤ _; omega⟩
      · rw [Codec.scan_not e hf]; exact ⟨Nat.le_refl _, by show f ≤ _; omega⟩

set_option maxHeartbeats 3200000 in
theorem resume_any {base : Nat} {w : World} {b : Nat} {d : Dev} (h : DevAt base w b d) (fr ln x : Nat) (hB : base ≤ w.heap.size) (h2 : 2 ≤ ln) (hfl : fr + ln ≤ d.L.length) (hm : d.L.length ≤ 65536) (hF : Fine d) (hdn : d.down = false) (hx1 : 1 ≤ x) (hx : x ≤ 1099511627776) (hl : d.left < 9223372036854775808) (hc : d.calls ≤ 1099511627776) (hW : d.W.length ≤ 549755813888) :
    Calls Tryd.prog 11 #[.pointer (some ⟨b, 0, none⟩), AV fr ln, .int .i64 (x : Int)] w fun e w' =>
      ((Dev.resumes fr ln x d).2 ≠ 0 → e = .returned (.tuple #[.pointer none, .slice none 0 0, .int .i64 (Dev.resumes fr ln x d).2]) ∧ DevAt base w' b (Dev.resumes fr ln x d).1) ∧
      ((Dev.resumes fr ln x d).2 = 0 → ∃ lb v, e = .returned (.tuple #[.pointer (some ⟨lb, 0, none⟩), v, .int .i64 0]) ∧ LogAt base w' b lb (Dev.resumes fr ln x d).1 fr ln x ((Codec.scan (view d fr ln) ln x false [] x).2 : Int) ∧ w'.ownsRow w.heap.size 32 3 v (Codec.scan (view d fr ln) ln x false [] x).1.length (rcs (Codec.scan (view d fr ln) ln x false [] x).1) ∧ Far w' b lb v) ∧ DStep b w w' := by
  have hse := scan_end (g := view d fr ln) ln x false [] x (Nat.le_refl _)
  have HST := hide (fun wy => isStamp_any (x : Int) wy)
  rw [decide_eq_true (show 1 ≤ (x : Int) ∧ (x : Int) ≤ 1099511627776 by omega)] at HST
  have HSC := hide (fun wy (hd : DevAt base wy b d) => scan_ok hd fr ln x h2 hfl hm hdn hF.cur hx (by omega))
  obtain ⟨R, hR⟩ : ∃ R, Codec.scan (view d fr ln) ln x false [] x = R := ⟨_, rfl⟩
  have hdef : Dev.resumes fr ln x d = Dev.wipes fr ln (x + ln - R.2) R.2 d := by unfold Dev.resumes; rw [hR]
  have HWI := hide (fun wy (hd : DevAt base wy b d) (hBy : base ≤ wy.heap.size) => wipe_any hd fr ln R.2 (x + ln - R.2) hBy h2 hfl hm hF (by rw [hR] at hse; omega) (by rw [hR] at hse; omega) hl hc hW)
  rw [← hdef, show R.2 + (x + ln - R.2) = x + ln by rw [hR] at hse; omega] at HWI
  rw [hR] at HSC ⊢
  generalize Dev.resumes fr ln x d = P at *
  obtain ⟨rs, en⟩ := R
  dsimp only at *
  have e1 : ((x + ln : Nat) : Int) = (x : Int) + (ln : Int) := by omega
  rw [e1] at HWI
  unfold AV at *
  clear hse hR hdef e1
  go_enter Tryd.func11, Tryd.ntmps11
  go_wp2_with fail
  refine (unhide HST _).mono ?_
  rintro e w0 ⟨rfl, rfl⟩
  obtain ⟨w1, hw1⟩ : ∃ w1, w.alloc (.cells #[.int .i64 (fr : Int), .int .i64 (ln : Int)] 26) = w1 := ⟨_, rfl⟩
  obtain ⟨A, hA⟩ : ∃ A, w.heap.size = A := ⟨_, rfl⟩
  have hb1 : Below w.heap.size w w1 := by rw [← hw1]; exact (Below.refl _ _).alloc (Nat.le_refl _) _
  have hx1 : w1.heap[A]? = some (.cells #[.int .i64 (fr : Int), .int .i64 (ln : Int)] 26 (0, 0)) := by rw [← hw1, ← hA]; exact heap_alloc_new w _
  have p0 := bcell hx1 0
  have p1 := bcell hx1 1
  simp only [List.getElem?_toArray, List.getElem?_cons_zero, List.getElem?_cons_succ] at p0 p1
  have HX1 := hide hx1
  have HB1 := hide hb1
  have HSC1 := hide (unhide HSC w1 (h.later hb1).1)
  have HA1 := hide hA
  clear hx1 hb1 HSC HST
  go_wp2_with fail
  refine (unhide HSC1).mono ?_
  rintro e w2 ⟨v, rfl, ho2, hb2⟩
  obtain ⟨ao, c, rfl, _⟩ := ownsRow_slice ho2
  have hx2 := (hb2.block A (block_lt (unhide HX1))).trans (unhide HX1)
  have q0 := bcell hx2 0
  have q1 := bcell hx2 1
  simp only [List.getElem?_toArray, List.getElem?_cons_zero, List.getElem?_cons_succ] at q0 q1
  have hb12 := (unhide HB1).trans (hb2.mono (unhide HB1).size)
  obtain ⟨hd2, hs2⟩ := h.later hb12
  have HWI2 := hide (unhide HWI w2 hd2 (Nat.le_trans hB hb12.size))
  have HO2 := hide ho2
  have HX2 := hide hx2
  have HD2 := hide hd2
  have HS2 := hide hs2
  have HSZ := hide hb12.size
  have HSZ1 := hide (unhide HB1).size
  have HFA : Hid (DFor w2 b A) := (DFor.new h (by rw [unhide HA1]; exact Nat.le_refl _)).same (hb12.block b h.lt)
  have HFR : Hid (∀ k, (Value.slice ao rs.length c).ownBlock = some k → DFor w2 b k) := fun k hk => by
    obtain ⟨cur, hc, hlo⟩ := ownsRow_blk ho2 hk
    exact (DFor.new (h.later (unhide HB1)).1 hlo).same (hb2.block b (h.later (unhide HB1)).1.lt)
  clear ho2 hb2 hx2 hb12 hd2 hs2 HSC1 HWI hw1 HX1 HB1 p0 p1
  go_wp2_with fail
  refine (unhide HWI2).mono ?_
  rintro e w3 ⟨rfl, hd3, hs3⟩
  have HD3 := hide hd3
  have HS3 := hide hs3
  have hx3 := (hs3.keep A (block_lt (unhide HX2)) (unhide HFA)).1.trans (unhide HX2)
  have r0 := bcell hx3 0
  have r1 := bcell hx3 1
  simp only [List.getElem?_toArray, List.getElem?_cons_zero, List.getElem?_cons_succ] at r0 r1
  clear hd3 hs3 hx3 q0 q1 HWI2
  by_cases hE : P.2 = 0
  · rw [hE]
    have HE := hide hE
    clear hE
    go_wp2_with fail
    go_ret3
    have hd3 := unhide HD3
    have hs3 := unhide HS3
    have hbA : Below w3.heap.size w3 (w3.alloc (WL b fr ln x en)) := (Below.refl _ _).alloc (Nat.le_refl _) _
    have ho3 : w3.ownsRow w1.heap.size 32 3 (.slice ao rs.length c) rs.length (rcs rs) := ownsRow_same (unhide HO2) fun k hk => by
      obtain ⟨cur, hc, _⟩ := ownsRow_blk (unhide HO2) hk
      exact (hs3.keep k (block_lt hc) (unhide HFR k hk)).1
    refine ⟨fun e => absurd (unhide HE) (by simpa using e), fun _ => ⟨w3.heap.size, _, rfl, ⟨(hd3.later hbA).1, ?_, heap_alloc_new w3 _, (DFor.new hd3 (Nat.le_refl _)).same (hbA.block b hd3.lt)⟩, ?_, fun k hk => ⟨?_, ?_⟩⟩, ((unhide HS2).trans hs3).trans (hd3.later hbA).2⟩
    · have := (unhide HS2).size; have := hs3.size; omega
    · exact ownsRow_less (ownsRow_later ho3 hbA) (unhide HSZ1)
    · obtain ⟨cur, hc, _⟩ := ownsRow_blk (unhide HO2) hk
      exact (hs3.keep k (block_lt hc) (unhide HFR k hk)).2.same (hbA.block b hd3.lt)
    · obtain ⟨cur, hc, _⟩ := ownsRow_blk ho3 hk
      have := block_lt hc
      omega
  · have hEb : (P.2 != 0) = true := by simpa using hE
    have HE := hide hE
    clear hE
    go_wp2_with fail
    go_ret3
    exact ⟨fun _ => ⟨rfl, unhide HD3⟩, fun e => absurd e (unhide HE), (unhide HS2).trans (unhide HS3)⟩
theorem resume_zero (b fr ln : Nat) (w : World) :
    Calls Tryd.prog 11 #[.pointer (some ⟨b, 0, none⟩), AV fr ln, .int .i64 0] w fun e w' => e = .returned (.tuple #[.pointer none, .slice none 0 0, .int .i64 18]) ∧ Below w.heap.size w w' := by
  have HST := hide (fun wy => isStamp_any 0 wy)
  rw [show decide (1 ≤ (0 : Int) ∧ (0 : Int) ≤ 1099511627776) = false from rfl] at HST
  unfold AV
  go_enter Tryd.func11, Tryd.ntmps11
  go_wp2_with fail
  refine (unhide HST _).mono ?_
  rintro e w0 ⟨rfl, rfl⟩
  go_wp2_with fail
  go_ret3
  exact ⟨rfl, (Below.refl _ _).alloc (Nat.le_refl _) _⟩
end Go.Proofs.YtkohcfmbfafkgabDoor
