/- Texts that this proof needs, one behind the other: WResume, WResMath, WAwake, WAwake2. -/
import Derived.Test.YtbmhmljbpjimoaaDoorBundleW6
import Derived.Test.YtbmhmljbpjimoaaDoorBundleC1
/- The contracts of wipe and Resume. -/
namespace Go.Proofs.YtbmhmljbpjimoaaDoor
open Go.RowKit
set_option linter.unusedVariables false
set_option maxRecDepth 100000

def Dev.wipes (fr ln : Nat) : Nat → Nat → Dev → Dev × Int
  | 0, _, d => (d.flush, d.flushE)
  | n + 1, a, d => if d.writeE ((place fr ln a : Nat) : Int) [] ≠ 0 then (d.write ((place fr ln a : Nat) : Int) [], d.writeE ((place fr ln a : Nat) : Int) []) else Dev.wipes fr ln n (a + 1) (d.write ((place fr ln a : Nat) : Int) [])

set_option maxRecDepth 4000 in
set_option maxHeartbeats 3200000 in
theorem wipe_any {base : Nat} {w : World} {b : Nat} {d : Dev} (h : DevAt base w b d) (fr ln x n : Nat) (hB : base ≤ w.heap.size) (h2 : 2 ≤ ln) (hfl : fr + ln ≤ d.L.length) (hm : d.L.length ≤ 65536) (hF : Fine d) (hx : x + n ≤ 2199023255552) (hn : n ≤ ln) (hl : d.left < 9223372036854775808) (hc : d.calls ≤ 1099511627776) (hW : d.W.length ≤ 549755813888) :
    Calls Tryd.prog 30 #[.pointer (some ⟨b, 0, none⟩), AV fr ln, .int .i64 (x : Int), .int .i64 ((x + n : Nat) : Int)] w fun e w' => e = .returned (.int .i64 (Dev.wipes fr ln n x d).2) ∧ DevAt base w' b (Dev.wipes fr ln n x d).1 ∧ DStep b w w' := by
  have HPL := hide (fun a wy (hy : a ≤ 4398046511104) => place_any fr ln a wy (by omega) (by omega) (by omega) hy)
  obtain ⟨P, hP⟩ : ∃ P, Dev.wipes fr ln n x d = P := ⟨_, rfl⟩
  rw [hP]
  have HP := hide hP
  obtain ⟨q, hq⟩ : ∃ q, x + n = q := ⟨_, rfl⟩
  rw [hq]
  have HQ := hide hq
  have hq2 : q ≤ 2199023255552 := by omega
  obtain ⟨w0, hw0⟩ : ∃ w0, w.alloc (.cells #[.int .i64 (fr : Int), .int .i64 (ln : Int)] 26) = w0 := ⟨_, rfl⟩
  have hb0 : Below w.heap.size w w0 := by rw [← hw0]; exact (Below.refl _ _).alloc (Nat.le_refl _) _
  obtain ⟨A, hA⟩ : ∃ A, w.heap.size = A := ⟨_, rfl⟩
  have hx0 : w0.heap[A]? = some (.cells #[.int .i64 (fr : Int), .int .i64 (ln : Int)] 26 (0, 0)) := by rw [← hw0, ← hA]; exact heap_alloc_new w _
  obtain ⟨hd0, hs0⟩ := h.later hb0
  have hfA : DFor w0 b A := (DFor.new h (by omega)).same (hb0.block b h.lt)
  have HX0 := hide hx0
  have HD0 := hide hd0
  have HS0 := hide hs0
  have HFA := hide hfA
  have HB0 := hide (Nat.le_trans hB hb0.size)
  have HLD : Hid (∀ (D : Dev), D.L.length = d.L.length → (d.L.length ≤ 65536)) := fun D _ => hm
  clear hP hq hx0 hd0 hs0 hfA hb0
  unfold AV at *
  go_enter Tryd.func30, Tryd.ntmps30
  go_wp2_with fail
  clear hw0 hA
  go_loopw [9] (fun i wr => ∃ (j : Nat) (D : Dev), j ≤ n ∧ i = .int .i64 ((x + j : Nat) : Int) ∧ Dev.wipes fr ln n x d = Dev.wipes fr ln (n - j) (x + j) D ∧ DevAt base wr b D ∧ DStep b w0 wr ∧ D.left ≤ d.left ∧ D.calls ≤ d.calls + j ∧ D.W.length ≤ d.W.length + j ∧ D.L = d.L ∧ Fine D) (fun i _ => x + n - (intOf i).toNat)
  case atStart => exact ⟨0, d, Nat.zero_le _, rfl, rfl, unhide HD0, DStep.refl _ _, Nat.le_refl _, Nat.le_refl _, Nat.le_refl _, rfl, hF⟩
  case round =>
    obtain ⟨j, D, hj, rfl, hwi, hdr, hst, hD1, hD2, hD3, hD4, hD5⟩ := hrel
    obtain ⟨a, hax⟩ : ∃ a, x + j = a := ⟨_, rfl⟩
    rw [hax]
    have HDR := hide hdr
    have HST := hide hst
    obtain ⟨kA1, kA2⟩ := hst.keep A (block_lt (unhide HX0)) (unhide HFA)
    have hxr := kA1.trans (unhide HX0)
    have p0 := bcell hxr 0
    have p1 := bcell hxr 1
    simp only [List.getElem?_toArray, List.getElem?_cons_zero, List.getElem?_cons_succ] at p0 p1
    have hBr : base ≤ wr.heap.size := Nat.le_trans (unhide HB0) hst.size
    have HBR := hide hBr
    clear HD0 hdr hst kA1 kA2 hxr hBr
    by_cases hlt : j < n
    · have hqq := unhide HQ
      have hle : (a : Int) < (q : Int) := by omega
      obtain ⟨n', hn'⟩ : ∃ n', n - j = n' + 1 := ⟨n - j - 1, by omega⟩
      have hwi2 := hwi
      rw [hn', Dev.wipes, hax] at hwi2
      have HWR := hide (fun wy (hd : DevAt base wy b D) (hBy : base ≤ wy.heap.size) => write_any hd ((place fr ln a : Nat) : Int) [] (by omega) (by omega) (by omega) hBy)
      have hg := write_grows D ((place fr ln a : Nat) : Int) []
      have hLW : (D.write ((place fr ln a : Nat) : Int) []).L = D.L ∧ Fine (D.write ((place fr ln a : Nat) : Int) []) := by
        have hp := place_lt fr ln a D.L.length (by omega) (by rw [hD4]; exact hfl)
        have hno : ¬ (D.no ((place fr ln a : Nat) : Int) ∨ 64 < ([] : List UInt8).length) := by
          intro hx
          rcases hx with hx | hx
          · unfold Dev.no at hx; omega
          · simp at hx
        unfold Dev.write
        rw [if_neg hno]
        unfold Dev.begin
        by_cases ho : D.out
        · rw [if_pos ho, if_pos ho]
          exact ⟨rfl, hD5.writes [] (by simp) _ rfl (by simp)⟩
        · rw [if_neg ho, if_neg ho]
          exact ⟨rfl, hD5.writes [(((place fr ln a : Nat) : Int).toNat, whole [])] (by intro y hy; simp at hy; subst hy; exact ⟨by simpa using hp, whole_length _⟩) _ rfl rfl⟩
      generalize D.writeE ((place fr ln a : Nat) : Int) [] = E at *
      generalize D.write ((place fr ln a : Nat) : Int) [] = D1 at *
      have ha40 : a ≤ 4398046511104 := by omega
      have HPA := hide (unhide HPL a wr ha40)
      generalize place fr ln a = pl at *
      have HWI2 := hide hwi2
      have HG := hide hg
      have HLW := hide hLW
      have HN := hide hn'
      have HAX := hide hax
      have hS0 : S [] = (⟨#[]⟩ : ByteArray) := rfl
      rw [hS0] at HWR
      clear hwi hwi2 hg hLW hn' hax hqq hS0
      go_wp2_with fail
      refine (unhide HPA).mono ?_
      rintro e w3 ⟨rfl, hb3⟩
      obtain ⟨hd3, hs3⟩ := (unhide HDR).later hb3
      have HW3 := hide (unhide HWR w3 hd3 (Nat.le_trans (unhide HBR) hb3.size))
      have HS3 := hide ((unhide HST).trans hs3)
      clear hb3 hd3 hs3 HPA HWR p0 p1
      go_wp2_with fail
      refine (unhide HW3).mono ?_
      rintro e w4 ⟨rfl, hd4, hs4⟩
      have HD4 := hide hd4
      have HS4 := hide ((unhide HS3).trans hs4)
      clear hd4 hs4 HW3 HS3
      by_cases hE : E = 0
      · subst hE
        go_wp2_with fail
        have hg := unhide HG
        have hLW := unhide HLW
        refine ⟨⟨j + 1, D1, by omega, by have := unhide HAX; simp; omega, ?_, unhide HD4, unhide HS4, by omega, by omega, by omega, hLW.1.trans hD4, hLW.2⟩, ?_⟩
        · have := unhide HWI2
          rw [if_neg (by simp)] at this
          rw [this, show n - (j + 1) = n' by have := unhide HN; omega, show x + (j + 1) = a + 1 by have := unhide HAX; omega]
        · have := unhide HAX
          have := unhide HQ
          simp [intOf]
          omega
      · have hEb : (E != 0) = true := by simpa using hE
        have hPE : P = (D1, E) := by rw [← unhide HP, unhide HWI2, if_pos hE]
        have HPE := hide hPE
        clear hPE hE
        go_wp2_with fail
        go_ret
        rw [unhide HPE]
        exact ⟨rfl, unhide HD4, (unhide HS0).trans (unhide HS4)⟩
    · have hjn : j = n := by omega
      have hqq := unhide HQ
      have hle : ¬ (a : Int) < (q : Int) := by omega
      have hPE : P = (D.flush, D.flushE) := by
        rw [← unhide HP, hwi, hjn, Nat.sub_self]
        rfl
      have HPE := hide hPE
      have HFL := hide (flush_any (unhide HDR) hD5.ok (by omega) (by omega) (by omega) (by rw [hD4]; omega))
      generalize D.flushE = E at *
      clear hPE hwi hjn hqq hax
      go_wp2_with fail
      refine (unhide HFL).mono ?_
      rintro e w3 ⟨rfl, hd3, hs3⟩
      have HE := hide (show DevAt base w3 b D.flush ∧ DStep b w w3 from ⟨hd3, ((unhide HS0).trans (unhide HST)).trans hs3⟩)
      clear hd3 hs3 HFL
      go_wp2_with fail
      go_ret
      rw [unhide HPE]
      exact ⟨rfl, unhide HE⟩

/- What Resume leaves: the device, its error. -/
def Dev.resumes (fr ln x : Nat) (d : Dev) : Dev × Int := Dev.wipes fr ln (x + ln - (Codec.scan (view d fr ln) ln x false [] x).2) (Codec.scan (view d fr ln) ln x false [] x).2 d
theorem scan_end {g : Nat → Option Codec.Sec} : ∀ n a o t f, f ≤ a → f ≤ (Codec.scan g n a o t f).2 ∧ (Codec.scan g n a o t f).2 ≤ a + n
  | 0, a, o, t, f, h => ⟨Nat.le_refl _, h⟩
  | n + 1, a, o, t, f, h => by
    cases e : g a with
    | none => rw [Codec.scan_none e]; exact ⟨Nat.le_refl _, by show f ≤ _; omega⟩
    | some x =>
      by_cases hf : Codec.fits x a o
      · by_cases hm : x.mark < 2
        · rw [Codec.scan_open e hf hm]
          have := scan_end (g := g) n (a + 1) true (t ++ x.data) f (by omega)
          exact ⟨this.1, by omega⟩
        · rw [Codec.scan_whole e hf hm]
          have := scan_end (g := g) n (a + 1) false [] (a + 1) (Nat.le_refl _)
          exact ⟨by show f ≤ (Codec.scan g n (a + 1) false [] (a + 1)).2; omega, by show (Codec.scan g n (a + 1) false [] (a + 1)).2 ≤ _; omega⟩
      · rw [Codec.scan_not e hf]; exact ⟨Nat.le_refl _, by show f ≤ _; omega⟩

set_option maxHeartbeats 3200000 in
theorem resume_any {base : Nat} {w : World} {b : Nat} {d : Dev} (h : DevAt base w b d) (fr ln x : Nat) (hB : base ≤ w.heap.size) (h2 : 2 ≤ ln) (hfl : fr + ln ≤ d.L.length) (hm : d.L.length ≤ 65536) (hF : Fine d) (hdn : d.down = false) (hx1 : 1 ≤ x) (hx : x ≤ 1099511627776) (hl : d.left < 9223372036854775808) (hc : d.calls ≤ 1099511627776) (hW : d.W.length ≤ 549755813888) :
    Calls Tryd.prog 11 #[.pointer (some ⟨b, 0, none⟩), AV fr ln, .int .i64 (x : Int)] w fun e w' =>
      ((Dev.resumes fr ln x d).2 ≠ 0 → e = .returned (.tuple #[.pointer none, .slice none 0 0, .int .i64 (Dev.resumes fr ln x d).2]) ∧ DevAt base w' b (Dev.resumes fr ln x d).1) ∧
      ((Dev.resumes fr ln x d).2 = 0 → ∃ lb v, e = .returned (.tuple #[.pointer (some ⟨lb, 0, none⟩), v, .int .i64 0]) ∧ LogAt base w' b lb (Dev.resumes fr ln x d).1 fr ln x ((Codec.scan (view d fr ln) ln x false [] x).2 : Int) ∧ w'.ownsRow w.heap.size 32 3 v (Codec.scan (view d fr ln) ln x false [] x).1.length (rcs (Codec.scan (view d fr ln) ln x false [] x).1) ∧ Far w' b lb v) ∧ DStep b w w' := by
  have hse := scan_end (g := view d fr ln) ln x false [] x (Nat.le_refl _)
  have HST := hide (fun wy => isStamp_any (x : Int) wy)
  rw [decide_eq_true (show 1 ≤ (x : Int) ∧ (x : Int) ≤ 1099511627776 by omega)] at HST
  have HSC := hide (fun wy (hd : DevAt base wy b d) => scan_ok hd fr ln x h2 hfl hm hdn hF.cur hx (by omega))
  obtain ⟨R, hR⟩ : ∃ R, Codec.scan (view d fr ln) ln x false [] x = R := ⟨_, rfl⟩
  have hdef : Dev.resumes fr ln x d = Dev.wipes fr ln (x + ln - R.2) R.2 d := by unfold Dev.resumes; rw [hR]
  have HWI := hide (fun wy (hd : DevAt base wy b d) (hBy : base ≤ wy.heap.size) => wipe_any hd fr ln R.2 (x + ln - R.2) hBy h2 hfl hm hF (by rw [hR] at hse; omega) (by rw [hR] at hse; omega) hl hc hW)
  rw [← hdef, show R.2 + (x + ln - R.2) = x + ln by rw [hR] at hse; omega] at HWI
  rw [hR] at HSC ⊢
  generalize Dev.resumes fr ln x d = P at *
  obtain ⟨rs, en⟩ := R
  dsimp only at *
  have e1 : ((x + ln : Nat) : Int) = (x : Int) + (ln : Int) := by omega
  rw [e1] at HWI
  unfold AV at *
  clear hse hR hdef e1
  go_enter Tryd.func11, Tryd.ntmps11
  go_wp2_with fail
  refine (unhide HST _).mono ?_
  rintro e w0 ⟨rfl, rfl⟩
  obtain ⟨w1, hw1⟩ : ∃ w1, w.alloc (.cells #[.int .i64 (fr : Int), .int .i64 (ln : Int)] 26) = w1 := ⟨_, rfl⟩
  obtain ⟨A, hA⟩ : ∃ A, w.heap.size = A := ⟨_, rfl⟩
  have hb1 : Below w.heap.size w w1 := by rw [← hw1]; exact (Below.refl _ _).alloc (Nat.le_refl _) _
  have hx1 : w1.heap[A]? = some (.cells #[.int .i64 (fr : Int), .int .i64 (ln : Int)] 26 (0, 0)) := by rw [← hw1, ← hA]; exact heap_alloc_new w _
  have p0 := bcell hx1 0
  have p1 := bcell hx1 1
  simp only [List.getElem?_toArray, List.getElem?_cons_zero, List.getElem?_cons_succ] at p0 p1
  have HX1 := hide hx1
  have HB1 := hide hb1
  have HSC1 := hide (unhide HSC w1 (h.later hb1).1)
  have HA1 := hide hA
  clear hx1 hb1 HSC HST
  go_wp2_with fail
  refine (unhide HSC1).mono ?_
  rintro e w2 ⟨v, rfl, ho2, hb2⟩
  obtain ⟨ao, c, rfl, _⟩ := ownsRow_slice ho2
  have hx2 := (hb2.block A (block_lt (unhide HX1))).trans (unhide HX1)
  have q0 := bcell hx2 0
  have q1 := bcell hx2 1
  simp only [List.getElem?_toArray, List.getElem?_cons_zero, List.getElem?_cons_succ] at q0 q1
  have hb12 := (unhide HB1).trans (hb2.mono (unhide HB1).size)
  obtain ⟨hd2, hs2⟩ := h.later hb12
  have HWI2 := hide (unhide HWI w2 hd2 (Nat.le_trans hB hb12.size))
  have HO2 := hide ho2
  have HX2 := hide hx2
  have HD2 := hide hd2
  have HS2 := hide hs2
  have HSZ := hide hb12.size
  have HSZ1 := hide (unhide HB1).size
  have HFA : Hid (DFor w2 b A) := (DFor.new h (by rw [unhide HA1]; exact Nat.le_refl _)).same (hb12.block b h.lt)
  have HFR : Hid (∀ k, (Value.slice ao rs.length c).ownBlock = some k → DFor w2 b k) := fun k hk => by
    obtain ⟨cur, hc, hlo⟩ := ownsRow_blk ho2 hk
    exact (DFor.new (h.later (unhide HB1)).1 hlo).same (hb2.block b (h.later (unhide HB1)).1.lt)
  clear ho2 hb2 hx2 hb12 hd2 hs2 HSC1 HWI hw1 HX1 HB1 p0 p1
  go_wp2_with fail
  refine (unhide HWI2).mono ?_
  rintro e w3 ⟨rfl, hd3, hs3⟩
  have HD3 := hide hd3
  have HS3 := hide hs3
  have hx3 := (hs3.keep A (block_lt (unhide HX2)) (unhide HFA)).1.trans (unhide HX2)
  have r0 := bcell hx3 0
  have r1 := bcell hx3 1
  simp only [List.getElem?_toArray, List.getElem?_cons_zero, List.getElem?_cons_succ] at r0 r1
  clear hd3 hs3 hx3 q0 q1 HWI2
  by_cases hE : P.2 = 0
  · rw [hE]
    have HE := hide hE
    clear hE
    go_wp2_with fail
    go_ret3
    have hd3 := unhide HD3
    have hs3 := unhide HS3
    have hbA : Below w3.heap.size w3 (w3.alloc (WL b fr ln x en)) := (Below.refl _ _).alloc (Nat.le_refl _) _
    have ho3 : w3.ownsRow w1.heap.size 32 3 (.slice ao rs.length c) rs.length (rcs rs) := ownsRow_same (unhide HO2) fun k hk => by
      obtain ⟨cur, hc, _⟩ := ownsRow_blk (unhide HO2) hk
      exact (hs3.keep k (block_lt hc) (unhide HFR k hk)).1
    refine ⟨fun e => absurd (unhide HE) (by simpa using e), fun _ => ⟨w3.heap.size, _, rfl, ⟨(hd3.later hbA).1, ?_, heap_alloc_new w3 _, (DFor.new hd3 (Nat.le_refl _)).same (hbA.block b hd3.lt)⟩, ?_, fun k hk => ⟨?_, ?_⟩⟩, ((unhide HS2).trans hs3).trans (hd3.later hbA).2⟩
    · have := (unhide HS2).size; have := hs3.size; omega
    · exact ownsRow_less (ownsRow_later ho3 hbA) (unhide HSZ1)
    · obtain ⟨cur, hc, _⟩ := ownsRow_blk (unhide HO2) hk
      exact (hs3.keep k (block_lt hc) (unhide HFR k hk)).2.same (hbA.block b hd3.lt)
    · obtain ⟨cur, hc, _⟩ := ownsRow_blk ho3 hk
      have := block_lt hc
      omega
  · have hEb : (P.2 != 0) = true := by simpa using hE
    have HE := hide hE
    clear hE
    go_wp2_with fail
    go_ret3
    exact ⟨fun _ => ⟨rfl, unhide HD3⟩, fun e => absurd e (unhide HE), (unhide HS2).trans (unhide HS3)⟩
theorem resume_zero (b fr ln : Nat) (w : World) :
    Calls Tryd.prog 11 #[.pointer (some ⟨b, 0, none⟩), AV fr ln, .int .i64 0] w fun e w' => e = .returned (.tuple #[.pointer none, .slice none 0 0, .int .i64 18]) ∧ Below w.heap.size w w' := by
  have HST := hide (fun wy => isStamp_any 0 wy)
  rw [show decide (1 ≤ (0 : Int) ∧ (0 : Int) ≤ 1099511627776) = false from rfl] at HST
  unfold AV
  go_enter Tryd.func11, Tryd.ntmps11
  go_wp2_with fail
  refine (unhide HST _).mono ?_
  rintro e w0 ⟨rfl, rfl⟩
  go_wp2_with fail
  go_ret3
  exact ⟨rfl, (Below.refl _ _).alloc (Nat.le_refl _) _⟩
end Go.Proofs.YtbmhmljbpjimoaaDoor
/- Plain mathematics: a log that is resumed, broken off, and resumed again. -/
namespace Go.Proofs.YtbmhmljbpjimoaaDoor
open Go.RowKit
set_option linter.unusedVariables false
set_option maxRecDepth 100000

theorem wipes_can (fr ln : Nat) (hl : 0 < ln) : ∀ n a (d : Dev), fr + ln ≤ d.L.length → Fine d →
    (∀ k c, can (Dev.wipes fr ln n a d).1 k c → can d k c ∨ ∃ i, i < n ∧ k = place fr ln (a + i) ∧ c = whole []) ∧ Fine (Dev.wipes fr ln n a d).1 ∧ (Dev.wipes fr ln n a d).1.L.length = d.L.length ∧ (Dev.wipes fr ln n a d).1.W.length ≤ d.W.length + n ∧ (Dev.wipes fr ln n a d).1.calls ≤ d.calls + n + 1
  | 0, a, d, hfl, hF => by
    show (∀ k c, can d.flush k c → _) ∧ Fine d.flush ∧ d.flush.L.length = _ ∧ d.flush.W.length ≤ _ ∧ d.flush.calls ≤ _
    by_cases ho : d.out
    · have e : d.flush = { d with down := true } := by unfold Dev.flush Dev.begin; rw [if_pos ho, if_pos ho]
      rw [e]
      exact ⟨fun k c hc => Or.inl hc, hF.writes [] (by simp) _ rfl (by simp), rfl, Nat.le_refl _, by show d.calls ≤ _; omega⟩
    · obtain ⟨e1, e2, e3, e4, e5, e6⟩ := flush_shape d ho
      exact ⟨fun k c hc => Or.inl (flush_can d ho k c hc), hF.flush ho, e1, by rw [e2]; exact Nat.zero_le _, by rw [e5]; omega⟩
  | n + 1, a, d, hfl, hF => by
    have hp := place_lt fr ln a d.L.length hl hfl
    have hno : ¬ (d.no ((place fr ln a : Nat) : Int) ∨ 64 < ([] : List UInt8).length) := by
      intro hx
      rcases hx with hx | hx
      · unfold Dev.no at hx; omega
      · simp at hx
    by_cases ho : d.out
    · have e1 : d.write ((place fr ln a : Nat) : Int) [] = { d with down := true } := by unfold Dev.write Dev.begin; rw [if_neg hno, if_pos ho, if_pos ho]
      have e2 : d.writeE ((place fr ln a : Nat) : Int) [] = 16 := by unfold Dev.writeE; rw [if_neg hno, if_pos ho]
      rw [Dev.wipes, if_pos (by rw [e2]; decide), e1]
      exact ⟨fun k c hc => Or.inl hc, hF.writes [] (by simp) _ rfl (by simp), rfl, by show d.W.length ≤ _; omega, by show d.calls ≤ _; omega⟩
    · have e1 : d.write ((place fr ln a : Nat) : Int) [] = { d with left := if d.armed then d.left - 1 else d.left, calls := d.calls + 1, W := d.W ++ [(place fr ln a, whole [])] } := by
        unfold Dev.write Dev.begin; rw [if_neg hno, if_neg ho, if_neg ho]; rfl
      have e2 : d.writeE ((place fr ln a : Nat) : Int) [] = 0 := by unfold Dev.writeE; rw [if_neg hno, if_neg ho]
      rw [Dev.wipes, if_neg (by rw [e2]; decide), e1]
      have hF1 : Fine { d with left := if d.armed then d.left - 1 else d.left, calls := d.calls + 1, W := d.W ++ [(place fr ln a, whole [])] } := hF.writes [(place fr ln a, whole [])] (by intro y hy; simp at hy; subst hy; exact ⟨hp, whole_length _⟩) _ rfl rfl
      obtain ⟨h1, h2, h3, h4, h5⟩ := wipes_can fr ln hl n (a + 1) { d with left := if d.armed then d.left - 1 else d.left, calls := d.calls + 1, W := d.W ++ [(place fr ln a, whole [])] } hfl hF1
      refine ⟨fun k c hc => ?_, h2, h3, ?_, ?_⟩
      · rcases h1 k c hc with h6 | ⟨i, hi, e3, e4⟩
        · rcases h6 with h6 | h6
          · exact Or.inl (Or.inl h6)
          · rcases List.mem_append.1 h6 with h6 | h6
            · exact Or.inl (Or.inr h6)
            · right
              simp at h6
              exact ⟨0, by omega, by rw [Nat.add_zero]; exact h6.1, h6.2⟩
        · exact Or.inr ⟨i + 1, by omega, by rw [e3]; congr 1; omega, e4⟩
      · have : (d.W ++ [(place fr ln a, whole [])]).length = d.W.length + 1 := by simp
        have h4' : _ ≤ (d.W ++ [(place fr ln a, whole [])]).length + n := h4
        omega
      · have h5' : _ ≤ d.calls + 1 + n + 1 := h5
        omega
/- With power all of it is written, and lasts. -/
theorem wipes_on (fr ln : Nat) (hl : 0 < ln) : ∀ n a (d : Dev), d.down = false → d.armed = false → d.left = 0 → fr + ln ≤ d.L.length → n ≤ ln →
    (Dev.wipes fr ln n a d).2 = 0 ∧ (Dev.wipes fr ln n a d).1.W = [] ∧ (Dev.wipes fr ln n a d).1.down = false ∧ (Dev.wipes fr ln n a d).1.armed = false ∧ (Dev.wipes fr ln n a d).1.left = 0 ∧ (∀ k, k < d.L.length → (Dev.wipes fr ln n a d).1.cur k = if ∃ i, i < n ∧ k = place fr ln (a + i) then whole [] else d.cur k)
  | 0, a, d, h1, h2, h3, h4, h5 => by
    have ho : ¬ d.out := by unfold Dev.out; rw [h1, h2]; simp
    obtain ⟨e1, e2, e3, e4, e5, e6⟩ := flush_shape d ho
    refine ⟨e6, e2, e3.trans h1, e4.trans h2, ?_, fun k hk => ?_⟩
    · show d.flush.left = 0
      unfold Dev.flush Dev.begin
      rw [if_neg ho, if_neg ho, h2]
      exact h3
    · rw [if_neg (by rintro ⟨i, hi, _⟩; omega)]
      exact flush_only d ho k _ hk (cur_can d.flush k (by rw [e1]; exact hk))
  | n + 1, a, d, h1, h2, h3, h4, h5 => by
    have hp := place_lt fr ln a d.L.length hl h4
    have ho : ¬ d.out := by unfold Dev.out; rw [h1, h2]; simp
    have hno : ¬ (d.no ((place fr ln a : Nat) : Int) ∨ 64 < ([] : List UInt8).length) := by
      intro hx
      rcases hx with hx | hx
      · unfold Dev.no at hx; omega
      · simp at hx
    have e1 : d.write ((place fr ln a : Nat) : Int) [] = { d with left := if d.armed then d.left - 1 else d.left, calls := d.calls + 1, W := d.W ++ [(place fr ln a, whole [])] } := by
      unfold Dev.write Dev.begin; rw [if_neg hno, if_neg ho, if_neg ho]; rfl
    have e2 : d.writeE ((place fr ln a : Nat) : Int) [] = 0 := by unfold Dev.writeE; rw [if_neg hno, if_neg ho]
    obtain ⟨d1, hd1⟩ : ∃ d1 : Dev, { d with left := if d.armed then d.left - 1 else d.left, calls := d.calls + 1, W := d.W ++ [(place fr ln a, whole [])] } = d1 := ⟨_, rfl⟩
    rw [Dev.wipes, if_neg (by rw [e2]; decide), e1, hd1]
    have k1 : d1.L = d.L := by rw [← hd1]
    have k2 : d1.W = d.W ++ [(place fr ln a, whole [])] := by rw [← hd1]
    obtain ⟨g1, g2, g3, g4, g5, g6⟩ := wipes_on fr ln hl n (a + 1) d1 (by rw [← hd1]; exact h1) (by rw [← hd1]; exact h2) (by rw [← hd1]; show (if d.armed then d.left - 1 else d.left) = 0; rw [h2]; exact h3) (by rw [k1]; exact h4) (by omega)
    clear hd1 e1
    refine ⟨g1, g2, g3, g4, g5, fun k hk => ?_⟩
    rw [g6 k (by rw [k1]; exact hk)]
    by_cases h6 : ∃ i, i < n ∧ k = place fr ln (a + 1 + i)
    · rw [if_pos h6, if_pos (by obtain ⟨i, hi, e⟩ := h6; exact ⟨i + 1, by omega, by rw [e]; congr 1; omega⟩)]
    · rw [if_neg h6]
      by_cases h7 : k = place fr ln a
      · rw [if_pos ⟨0, by omega, by rw [Nat.add_zero]; exact h7⟩, h7]
        exact cur_append_mem d d1 _ _ _ k2 List.mem_cons_self (fun y hy _ => by simp at hy; rw [hy])
      · rw [if_neg (by
          rintro ⟨i, hi, e⟩
          cases i with
          | zero => exact h7 (by rw [Nat.add_zero] at e; exact e)
          | succ i => exact h6 ⟨i, by omega, by rw [e]; congr 1; omega⟩)]
        exact cur_append_not d d1 _ _ k1 k2 (fun y hy => by simp at hy; subst hy; exact fun e => h7 e.symm)

/- Behind a crash, and behind any Resumes that were broken off: what stood ahead of the end stands, the rest stands or is gone. -/
structure RS (fr ln x en : Nat) (D0 D : Dev) : Prop where
  dn : D.down = false
  ar : D.armed = false
  lf : D.left = 0
  len : D.L.length = 24
  fine : Fine D
  wl : D.W = []
  keep : ∀ a, x ≤ a → a < en → D.cur (place fr ln a) = D0.cur (place fr ln a)
  rest : ∀ a, x ≤ a → a < x + ln → D.cur (place fr ln a) = D0.cur (place fr ln a) ∨ D.cur (place fr ln a) = whole []
section
variable {fr ln x en : Nat} {D0 D : Dev} {rs : List Codec.Rec}
theorem RS.scan (h : RS fr ln x en D0 D) (hs : Codec.scan (view D0 fr ln) ln x false [] x = (rs, en)) : Codec.scan (view D fr ln) ln x false [] x = (rs, en) := by
  rw [← hs]
  refine Codec.scan_less ln x false [] x (Nat.le_refl _) (fun c h1 h2 => ?_) (fun c h1 h2 => ?_)
  · rcases h.rest c h1 h2 with e | e
    · left; rw [view_vw, view_vw, e]
    · right
      intro s hs'
      rw [view_vw, e, vw_blank] at hs'
      cases hs'
  · rw [hs] at h2
    rw [view_vw, view_vw, h.keep c h1 h2]
theorem RS.round (h : RS fr ln x en D0 D) (hl : 0 < ln) (hfl : fr + ln ≤ 24) (he1 : x ≤ en) (he2 : en ≤ x + ln) (hs : Codec.scan (view D0 fr ln) ln x false [] x = (rs, en)) (l : Nat) (keep : List Int) :
    RS fr ln x en D0 ((Dev.resumes fr ln x (D.arm (l : Int))).1.crash keep) ∧ Fine (Dev.resumes fr ln x (D.arm (l : Int))).1 ∧ (Dev.resumes fr ln x (D.arm (l : Int))).1.L.length = 24 ∧ (Dev.resumes fr ln x (D.arm (l : Int))).1.W.length ≤ ln ∧ (Dev.resumes fr ln x (D.arm (l : Int))).1.calls ≤ D.calls + ln + 1 := by
  have hv : view (D.arm (l : Int)) fr ln = view D fr ln := rfl
  have hF : Fine (D.arm (l : Int)) := h.fine.writes [] (by simp) _ rfl (by simp [Dev.arm])
  have hre : Dev.resumes fr ln x (D.arm (l : Int)) = Dev.wipes fr ln (x + ln - en) en (D.arm (l : Int)) := by
    unfold Dev.resumes
    rw [hv, h.scan hs]
  rw [hre]
  have hL : fr + ln ≤ (D.arm (l : Int)).L.length := by show fr + ln ≤ D.L.length; rw [h.len]; exact hfl
  obtain ⟨h1, h2, h3, h4, h5⟩ := wipes_can fr ln hl (x + ln - en) en (D.arm (l : Int)) hL hF
  generalize Dev.wipes fr ln (x + ln - en) en (D.arm (l : Int)) = P at *
  have hP24 : P.1.L.length = 24 := h3.trans h.len
  have hcl : (P.1.crash keep).L.length = 24 := by show (lay _ _).length = 24; rw [lay_length]; exact hP24
  have hone : ∀ a, ∀ c, can (D.arm (l : Int)) (place fr ln a) c → c = D.cur (place fr ln a) := by
    intro a c hc
    have hk : place fr ln a < D.L.length := place_lt fr ln a _ hl (by rw [h.len]; exact hfl)
    have h6 := cur_can D (place fr ln a) hk
    rcases hc with hc | hc
    · rcases h6 with h6 | h6
      · have e1 : D.L[place fr ln a]? = some c := hc
        rw [h6] at e1
        exact (Option.some.inj e1).symm
      · rw [h.wl] at h6; cases h6
    · have : (place fr ln a, c) ∈ D.W := hc
      rw [h.wl] at this; cases this
  have hcon : ∀ a, x ≤ a → a < x + ln → (P.1.crash keep).cur (place fr ln a) = D.cur (place fr ln a) ∨ (en ≤ a ∧ (P.1.crash keep).cur (place fr ln a) = whole []) := by
    intro a ha1 ha2
    have hc := crash_can P.1 keep _ _ (cur_can (P.1.crash keep) (place fr ln a) (place_lt fr ln a _ hl (by rw [hcl]; exact hfl)))
    rcases h1 _ _ hc with hc | ⟨i, hi, e1, e2⟩
    · exact Or.inl (hone a _ hc)
    · right
      have : a = en + i := by
        rcases Nat.le_total a (en + i) with hle | hle
        · exact place_inj e1 hle (by omega)
        · exact (place_inj e1.symm hle (by omega)).symm
      exact ⟨by omega, e2⟩
  refine ⟨⟨rfl, rfl, rfl, hcl, h2.crash keep, rfl, fun a ha1 ha2 => ?_, fun a ha1 ha2 => ?_⟩, h2, hP24, ?_, ?_⟩
  · rcases hcon a ha1 (by omega) with e | e
    · rw [e]; exact h.keep a ha1 ha2
    · omega
  · rcases hcon a ha1 ha2 with e | e
    · rw [e]; exact h.rest a ha1 ha2
    · exact Or.inr e.2
  · have : (D.arm (l : Int)).W = [] := h.wl
    rw [this] at h4
    have : ([] : List (Nat × List UInt8)).length = 0 := rfl
    omega
  · have : (D.arm (l : Int)).calls = D.calls := rfl
    omega
theorem RS.last (h : RS fr ln x en D0 D) (hl : 0 < ln) (hfl : fr + ln ≤ 24) (he1 : x ≤ en) (he2 : en ≤ x + ln) (hs : Codec.scan (view D0 fr ln) ln x false [] x = (rs, en)) (ts : List (List UInt8)) (k : Nat) (hk : k ≤ ts.length) (hen : en = x + Codec.costs (ts.take k)) (hc : D.calls ≤ 900)
    (hst : ∀ a, x ≤ a → a < x + Codec.costs (ts.take k) → ∃ s, Codec.secAt x ts a = some s ∧ D0.cur (place fr ln a) = Codec.secText s) (hln : ln ≤ 20) :
    (Dev.resumes fr ln x D).2 = 0 ∧ (Dev.resumes fr ln x D).1.W = [] ∧ PD fr ln x (ts.take k) k (Dev.resumes fr ln x D).1 ∧ (Dev.resumes fr ln x D).1.calls ≤ D.calls + ln + 1 := by
  have hre : Dev.resumes fr ln x D = Dev.wipes fr ln (x + ln - en) en D := by
    unfold Dev.resumes
    rw [h.scan hs]
  rw [hre]
  have hL : fr + ln ≤ D.L.length := by rw [h.len]; exact hfl
  obtain ⟨h1, h2, h3, h4, h5⟩ := wipes_can fr ln hl (x + ln - en) en D hL h.fine
  obtain ⟨g1, g2, g3, g4, g5, g6⟩ := wipes_on fr ln hl (x + ln - en) en D h.dn h.ar h.lf hL (by omega)
  generalize Dev.wipes fr ln (x + ln - en) en D = P at *
  have hsec : ∀ a, x ≤ a → a < x + Codec.costs (ts.take k) → Codec.secAt x (ts.take k) a = Codec.secAt x ts a := by
    intro a ha1 ha2
    have key : ∀ (l : List (List UInt8)) (q y : Nat), y ≤ a → a < y + Codec.costs (l.take q) → Codec.secAt y (l.take q) a = Codec.secAt y l a := by
      intro l
      induction l with
      | nil => intro q y _ _; simp
      | cons u r ih =>
        intro q y hy1 hy2
        cases q with
        | zero => simp [Codec.costs] at hy2; omega
        | succ q =>
          rw [List.take_succ_cons] at hy2 ⊢
          rw [Codec.secAt, Codec.secAt]
          by_cases h7 : a < y + Codec.cost u.length
          · rw [if_pos h7, if_pos h7]
          · rw [if_neg h7, if_neg h7]
            exact ih q _ (by omega) (by simp only [Codec.costs] at hy2; omega)
    exact key ts k x ha1 ha2
  have hP24 : P.1.L.length = 24 := h3.trans h.len
  have hone : ∀ a, ∀ c, can P.1 (place fr ln a) c → c = P.1.cur (place fr ln a) := by
    intro a c hc
    have h6 := cur_can P.1 (place fr ln a) (place_lt fr ln a _ hl (by rw [hP24]; exact hfl))
    rcases hc with hc | hc
    · rcases h6 with h6 | h6
      · rw [h6] at hc
        exact (Option.some.inj hc).symm
      · rw [g2] at h6; cases h6
    · rw [g2] at hc; cases hc
  have hold : ∀ a, x ≤ a → a < en → P.1.cur (place fr ln a) = D0.cur (place fr ln a) := by
    intro a ha1 ha2
    rw [g6 _ (place_lt fr ln a _ hl hL), if_neg (by
      rintro ⟨i, hi, e⟩
      have := place_inj e (by omega) (by omega)
      omega)]
    exact h.keep a ha1 ha2
  have hnew : ∀ a, en ≤ a → a < x + ln → P.1.cur (place fr ln a) = whole [] := by
    intro a ha1 ha2
    rw [g6 _ (place_lt fr ln a _ hl hL), if_pos ⟨a - en, by omega, by congr 1; omega⟩]
  have hcur : ∀ a, x ≤ a → a < x + Codec.costs (ts.take k) → ∃ s, Codec.secAt x (ts.take k) a = some s ∧ P.1.cur (place fr ln a) = Codec.secText s := fun a ha1 ha2 => by
    obtain ⟨s, s1, s2⟩ := hst a ha1 ha2
    exact ⟨s, by rw [hsec a ha1 ha2]; exact s1, by rw [hold a ha1 (by omega)]; exact s2⟩
  refine ⟨g1, g2, ⟨g3, g4, g5, hP24, h2, by omega, by rw [g2]; exact Nat.zero_le _, by omega, hcur, fun a ha1 ha2 c hc => ?_, fun a ha1 ha2 c hc => ?_, by rw [List.length_take]; omega⟩, by omega⟩
  · rw [hone a c hc]
    by_cases h7 : a < en
    · exact Or.inr (hcur a ha1 (by omega))
    · left; rw [hnew a (by omega) ha2]; exact bad_blank a
  · rw [hone a c hc]
    rw [List.take_take, Nat.min_self] at ha2
    exact hcur a ha1 ha2
end
end Go.Proofs.YtbmhmljbpjimoaaDoor
/- The answers that the log's statements ask for first. -/
namespace Go.Proofs.YtbmhmljbpjimoaaDoor
open Go.RowKit
set_option linter.unusedVariables false
set_option maxRecDepth 100000

def Z100 : List UInt8 := List.replicate 100 0
theorem Z100_length : Z100.length = 100 := List.length_replicate
def D7 : Dev := { Dev.new 24 with W := wlist 1 10 Z100 7 3 0, calls := 3 }
theorem awake_dev : Dev.puts 1 10 Z100 7 (Codec.cost Z100.length) 0 (Dev.new 24) = (D7, 0) := by
  rw [show Codec.cost Z100.length = 3 by rw [Z100_length]; rfl, puts_on 1 10 Z100 7 (by omega) 3 0 (Dev.new 24) rfl rfl (by simp [Dev.new]) (by omega)]
  simp [Dev.new, D7]
theorem awake_cur : D7.cur 8 = Codec.secText (Codec.sec Z100 7 0) := by
  unfold Dev.cur D7
  simp only [wlist, place]
  rfl
theorem awake_read : D7.read 8 = Codec.secText (Codec.sec Z100 7 0) ∧ D7.readE 8 = 0 := by
  have hno : ¬ D7.no 8 := by unfold Dev.no D7; simp [Dev.new]
  unfold Dev.read Dev.readE
  rw [if_neg hno, if_neg hno, if_neg (by unfold D7; simp [Dev.new]), if_neg (by unfold D7; simp [Dev.new])]
  exact ⟨awake_cur, rfl⟩
theorem awake_parse : Codec.parse (D7.read 8) = (Codec.sec Z100 7 0, 0) := by
  rw [awake_read.1]
  exact Codec.parse_text _ (Codec.sec_ok Z100 7 0 (by omega)) (Codec.piece_length _ _) (by show 1 ≤ 7 + 0; omega)
end Go.Proofs.YtbmhmljbpjimoaaDoor
/- The contract of the law's awake. -/
namespace Go.Proofs.YtbmhmljbpjimoaaDoor
open Go.RowKit
set_option linter.unusedVariables false
set_option maxRecDepth 100000

theorem w_make100 (w : World) : ∃ w', (Instr.makeSlice 46 (.int .i64 100) (.int .i64 100)).run Tryd.prog w = .ok (.slice (some ⟨w.heap.size, 0, none⟩) 100 100) w' ∧ (convert 46 9 (.slice (some ⟨w.heap.size, 0, none⟩) 100 100)).run Tryd.prog w' = .ok (.string (S Z100)) w' ∧ Below w.heap.size w w' := by
  obtain ⟨i0, hi, hz0, hz1, hz2⟩ := info_parts info_byte
  obtain ⟨w', hmk, hown, hgr⟩ := run_make_full (P := Tryd.prog) w w.heap.size 46 5 i0 (.int .u8 0) 1 under_bytes hi hz0 hz1 .i64 .i64 100 (by rw [hz2]; omega) (by unfold maxLen; omega) (Nat.le_refl _)
  refine ⟨w', hmk, ?_, (Below.refl _ _).grown hgr (Nat.le_refl _) (fun k e => by cases e)⟩
  refine run_convert_bytes_back w' 46 9 5 ⟨w.heap.size, 0, none⟩ 100 Z100 under_bytes under_byte under_string ?_
  have e : (madeCells (Value.int .u8 0).cells (100 * 1)).toList = List.replicate 100 (.int .u8 0) := by
    rw [Nat.mul_one]; exact toList_madeCells_one _ 100
  rw [e] at hown
  intro j hj
  have hj' : j < 100 := by rw [← Z100_length]; exact hj
  rw [plain_add, Nat.zero_add]
  have := ownsRow_cell hown (g := w.heap.size) (c := 100) rfl j (.int .u8 0) (by rw [List.getElem?_replicate, if_pos hj'])
  rw [this, show Z100[j]'hj = 0 from List.getElem_replicate _]
  rfl

set_option maxHeartbeats 1600000 in
theorem wawake_any (w : World) :
    Calls Tryd.prog 4 #[] w fun e w' => e = .returned (.bool true) ∧ Below w.heap.size w w' := by
  have HBG := hide (begin_log 1 10 7 w (by omega) (by unfold areaE; simp [Dev.new]) (by omega) (by omega))
  have HC45 := hide (fun wy => wcost_any 45 wy (by omega))
  rw [show Codec.cost 45 = 2 from rfl] at HC45
  unfold AV at HBG
  go_enter Tryd.func4, Tryd.ntmps4
  go_wp2_with fail
  refine (unhide HBG).mono ?_
  rintro e w1 ⟨b, lb, rfl, hl1, hb1⟩
  obtain ⟨w2, hmk, hcv, hb2⟩ := w_make100 w1
  obtain ⟨hl2, hs2⟩ := hl1.later hb2
  have hB2 : w.heap.size ≤ w2.heap.size := Nat.le_trans hb1.size hb2.size
  have HAP := hide (append_put (head := 7) (x := 7) (fr := 1) (ln := 10) hl2 Z100 hB2 (by rw [Z100_length]; omega) (by omega) (by omega) (by rw [Z100_length]; decide) (by omega) (by omega) (by rw [Z100_length]; decide) (by simp [Dev.new]) (by simp [Dev.new]) (by simp [Dev.new]))
  rw [awake_dev, show Codec.cost Z100.length = 3 by rw [Z100_length]; rfl] at HAP
  have HB2 := hide (hb1.trans (hb2.mono hb1.size))
  have HL2 := hide hl2
  have HBS := hide hB2
  clear HBG hl1 hb1 hb2 hl2 hs2 hB2
  go_wp2_with fail
  refine (unhide HAP).mono ?_
  rintro e w3 ⟨hok, _, hst⟩
  obtain ⟨rfl, hl3⟩ := hok (by trivial)
  have hb3 := hst.below (unhide HL2) (unhide HBS)
  have hb3 : Below w.heap.size w w3 := (unhide HB2).trans hb3
  obtain ⟨w4, hw4⟩ : ∃ w4, w3.alloc (.cells #[.int .i64 7, .int .i64 9, .string (S Z100)] 32) = w4 := ⟨_, rfl⟩
  have hb34 : Below w3.heap.size w3 w4 := by rw [← hw4]; exact (Below.refl _ _).alloc (Nat.le_refl _) _
  obtain ⟨hl4, _⟩ := hl3.later hb34
  have HRD := hide (sread_ok hl4.dev 8 (by simp [D7, wlist_length]) (by rw [awake_read.1, sec_len _ _ _ (by omega)]; omega) awake_read.2)
  rw [awake_parse] at HRD
  obtain ⟨RB, hRB⟩ : ∃ RB, w3.heap.size = RB := ⟨_, rfl⟩
  have hrb4 : w4.heap[RB]? = some (.cells #[.int .i64 7, .int .i64 9, .string (S Z100)] 32 (0, 0)) := by rw [← hw4, ← hRB]; exact heap_alloc_new w3 _
  have HB4 := hide (hb3.trans (hb34.mono hb3.size))
  have HL4 := hide hl4
  have HRB4 := hide hrb4
  unfold SV at HRD
  have hmk0 : (Codec.sec Z100 7 0).mark = 1 := by
    show Codec.mk Z100 0 = 1
    unfold Codec.mk
    rw [Z100_length]
    rfl
  have hst0 : (Codec.sec Z100 7 0).stamp = 7 := rfl
  rw [hmk0, hst0] at HRD
  generalize (Codec.sec Z100 7 0).data = dt at *
  clear HAP hmk hcv hok hst hl3 hb3 hb34 hl4 hrb4 hmk0 hst0 HB2
  go_wp2_with fail
  refine (unhide HRD).mono ?_
  rintro e w5 ⟨rfl, hb5⟩
  obtain ⟨w6, hw6⟩ : ∃ w6, w5.alloc (.cells #[.int .i64 7, .int .u8 1, .string (S dt)] 48) = w6 := ⟨_, rfl⟩
  have hb46 : Below w4.heap.size w4 w6 := by rw [← hw6]; exact hb5.alloc hb5.size _
  obtain ⟨SB, hSB⟩ : ∃ SB, w5.heap.size = SB := ⟨_, rfl⟩
  have hsb6 : w6.heap[SB]? = some (.cells #[.int .i64 7, .int .u8 1, .string (S dt)] 48 (0, 0)) := by rw [← hw6, ← hSB]; exact heap_alloc_new w5 _
  have hrb6 := (hb46.block RB (block_lt (unhide HRB4))).trans (unhide HRB4)
  have hl6 := ((unhide HL4).later hb46).1
  have HNX := hide (next_any hl6.log)
  have HFR := hide (free_any hl6.log (by omega) (by omega) (by omega) (by omega) (by omega))
  have HB6 := hide ((unhide HB4).trans (hb46.mono (unhide HB4).size))
  have r0 := bcell hrb6 0
  have r1 := bcell hrb6 1
  have q0 := bcell hsb6 0
  have q1 := bcell hsb6 1
  simp only [List.getElem?_toArray, List.getElem?_cons_zero, List.getElem?_cons_succ] at r0 r1 q0 q1
  have HSB6 := hide hsb6
  clear hb5 hb46 hsb6 hrb6 hl6 HRD hw4 hRB HRB4 HL4 HB4
  go_wp2_with fail
  refine (unhide HNX).mono ?_
  rintro e w7 ⟨rfl, rfl⟩
  go_wp2_with fail
  refine (unhide HFR).mono ?_
  rintro e w8 ⟨rfl, nq, rfl⟩
  have q0' : (w7.drewN nq).cell? ⟨SB, 0, none⟩ = some (.int .i64 7) := q0
  have q1' : (w7.drewN nq).cell? ⟨SB, 1, none⟩ = some (.int .u8 1) := q1
  clear q0 q1 r0 r1
  have HB8 := hide (w_below_drewN (unhide HB6) nq)
  generalize w7.drewN nq = w8 at *
  go_wp2_with fail
  refine (unhide HC45 _).mono ?_
  rintro e w9 ⟨rfl, rfl⟩
  go_wp2_with fail
  go_ret
  exact ⟨rfl, unhide HB8⟩
end Go.Proofs.YtbmhmljbpjimoaaDoor
