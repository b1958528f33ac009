/- WalDown's walk. -/
import Derived.Test.YtkohcfmbfafkgaaDoorWMay
import Derived.Test.YtkohcfmbfafkgaaDoorDArgs
namespace Go.Proofs.YtkohcfmbfafkgaaDoor
open Go.RowKit
set_option linter.unusedVariables false
set_option maxRecDepth 100000

theorem numrow_nil (w : World) : NumRow w (.slice none 0 0) [] := ⟨none, 0, rfl, fun j h => absurd h (Nat.not_lt_zero _)⟩
theorem crash_none (d : Dev) : (d.crash []).L = d.L := by
  show lay d.L (chosen [] d.W) = d.L
  have : chosen [] d.W = [] := by unfold chosen; simp
  rw [this]; rfl

set_option maxHeartbeats 1600000 in
theorem down_append (s : List UInt8) (hs200 : s.length ≤ 200) (x l : Nat) (hx1 : 1 ≤ x) (hx2 : x ≤ 256) (hl7 : l ≤ 7) (D : Dev) (hD : ({ Dev.new 24 with armed := true, left := l } : Dev) = D) :
    ∃ (D1 : Dev) (nx er : Nat) (rv0 rv1 : Int) (rv2 : ByteArray), (er = 0 ↔ Codec.cost s.length ≤ l) ∧ (er ≠ 0 → er = 16 ∧ nx = x) ∧ D1.L = D.L ∧ D1.W.length ≤ 7 ∧ D1.Ok ∧ D1.L.length = 24 ∧ Fine D1 ∧
      ∀ b lb base wy, LogAt base wy b lb D (0 : Nat) (10 : Nat) (x : Nat) (x : Nat) → base ≤ wy.heap.size → Calls Tryd.prog 13 #[.pointer (some ⟨lb, 0, none⟩), .string (S s)] wy fun e w' => e = .returned (.tuple #[.agg #[.int .i64 rv0, .int .i64 rv1, .string rv2], .int .i64 (er : Int)]) ∧ LogAt base w' b lb D1 (0 : Nat) (10 : Nat) (x : Nat) (nx : Nat) ∧ LStep b lb wy w' := by
  have hcost : Codec.cost s.length ≤ 5 := Codec.cost_le _ 5 (by omega) (by omega)
  have hcp := Codec.cost_pos s.length
  have hDL : D.L.length = 24 := by rw [← hD]; simp [Dev.new]
  have hDn : D.down = false := by rw [← hD]; rfl
  have hDa : D.armed = true := by rw [← hD]
  have hDl : D.left = l := by rw [← hD]
  have hDc : D.calls = 0 := by rw [← hD]; rfl
  have hDW : D.W = [] := by rw [← hD]; rfl
  have hF : Fine D := (Fine.new 24 (by omega)).writes [] (by simp) D (by rw [← hD]) (by rw [hDW]; rfl)
  have hputs := puts_armed 0 10 s x (by omega) (Codec.cost s.length) 0 D hDn hDa (by omega) (by omega)
  have hap := fun b lb base wy (hl : LogAt base wy b lb D (0 : Nat) (10 : Nat) (x : Nat) (x : Nat)) (hB : base ≤ wy.heap.size) => append_put hl s hB (by omega) (by omega) (by omega) (by omega) (by omega) (by omega) (by omega) (by omega) (by omega) (by rw [hDW]; simp)
  by_cases hle : Codec.cost s.length ≤ l
  · rw [if_pos (by rw [hDl]; exact hle)] at hputs
    rw [hputs] at hap
    have hF1 : Fine { D with W := D.W ++ wlist 0 10 s x (Codec.cost s.length) 0, calls := D.calls + Codec.cost s.length, left := D.left - Codec.cost s.length } := hF.writes (wlist 0 10 s x (Codec.cost s.length) 0) (wlist_fine 0 10 s x _ 0 _ (by omega) (by omega) (by omega)) _ rfl rfl
    refine ⟨{ D with W := D.W ++ wlist 0 10 s x (Codec.cost s.length) 0, calls := D.calls + Codec.cost s.length, left := D.left - Codec.cost s.length }, x + Codec.cost s.length, 0, (x : Int), ((x + Codec.cost s.length - 1 : Nat) : Int), S s, by simp [hle], by simp, rfl, ?_, hF1.ok, hDL, hF1, fun b lb base wy hl hB => (hap b lb base wy hl hB).mono fun e w' ⟨h1, h2, h3⟩ => ?_⟩
    · show (D.W ++ wlist 0 10 s x (Codec.cost s.length) 0).length ≤ 7
      rw [hDW, List.length_append, wlist_length]; simp; omega
    · obtain ⟨e1, e2⟩ := h1 rfl
      exact ⟨e1, e2, h3⟩
  · rw [if_neg (by rw [hDl]; exact hle)] at hputs
    rw [hputs] at hap
    have hF1 : Fine { D with W := D.W ++ wlist 0 10 s x D.left 0, calls := D.calls + D.left, left := 0, down := true } := hF.writes (wlist 0 10 s x D.left 0) (wlist_fine 0 10 s x _ 0 _ (by omega) (by omega) (by omega)) _ rfl rfl
    refine ⟨{ D with W := D.W ++ wlist 0 10 s x D.left 0, calls := D.calls + D.left, left := 0, down := true }, x, 16, 0, 0, ⟨#[]⟩, by simp [hle], by simp, rfl, ?_, hF1.ok, hDL, hF1, fun b lb base wy hl hB => (hap b lb base wy hl hB).mono fun e w' ⟨h1, h2, h3⟩ => ?_⟩
    · show (D.W ++ wlist 0 10 s x D.left 0).length ≤ 7
      rw [hDW, List.length_append, wlist_length]; simp; omega
    · obtain ⟨e1, e2⟩ := h2 (by simp)
      exact ⟨e1, e2, h3⟩

set_option maxRecDepth 4000 in
set_option maxHeartbeats 3200000 in
theorem walDown_walk (a0 : Int) (h0 : (Lit.int .i64 a0).wf = true) (a1 : ByteArray) (h1 : a1.size ≤ maxLen) (a2 : Int) (h2 : (Lit.int .i64 a2).wf = true) (w : World) :
    Calls Tryd.prog 7 #[.int .i64 a0, .string a1, .int .i64 a2] w fun e w' => e = .returned (.bool true) ∧ Below w.heap.size w w' := by
  obtain ⟨z, hze, hz2⟩ : ∃ z : Nat, bits .and .i64 a0 255 = (z : Int) ∧ z ≤ 255 := ⟨(a0 % 256).toNat, by rw [w_mask a0 8 255 (by omega) (by decide)]; omega, by omega⟩
  obtain ⟨x, hx⟩ : ∃ x, 1 + z = x := ⟨_, rfl⟩
  have hxe : 1 + (z : Int) = (x : Int) := by omega
  obtain ⟨l, hle, hl7⟩ : ∃ l : Nat, bits .and .i64 a2 7 = (l : Int) ∧ l ≤ 7 := ⟨(a2 % 8).toNat, by rw [w_mask a2 3 7 (by omega) (by decide)]; omega, by omega⟩
  obtain ⟨t, ht⟩ : ∃ t : List UInt8, t = a1.data.toList := ⟨_, rfl⟩
  have ha : a1 = S t := by rw [ht]; cases a1; rfl
  subst ha
  have htm : t.length ≤ 9223372036854775807 := by
    have : (S t).size = t.length := rfl
    unfold maxLen at h1; omega
  clear ht h0 h2 h1
  obtain ⟨n, hn⟩ : ∃ n, t.length = n := ⟨_, rfl⟩
  have hsz : (S t).size = n := hn
  obtain ⟨s, hse⟩ : ∃ s : List UInt8, s = t.take 200 := ⟨_, rfl⟩
  have hs200 : s.length ≤ 200 := by rw [hse, List.length_take]; omega
  have HAW := hide (fun wy => wawake_any wy)
  have HBG := hide (fun wy => begin_log 0 10 x wy (by omega) (by unfold areaE; simp [Dev.new]) (by omega) (by omega))
  have HARM := hide (fun b base wy (hb : DevAt base wy b (Dev.new 24)) => arm_any hb (l : Int))
  have earm : (Dev.new 24).arm (l : Int) = { Dev.new 24 with armed := true, left := l } := by unfold Dev.arm; simp
  rw [earm] at HARM
  obtain ⟨D, hD⟩ : ∃ D : Dev, ({ Dev.new 24 with armed := true, left := l } : Dev) = D := ⟨_, rfl⟩
  rw [hD] at HARM
  obtain ⟨D1, nx, er, rv0, rv1, rv2, her, her2, hD1D, hD1W, hDok, hD1L, hFine, hap⟩ := down_append s hs200 x l (by omega) (by omega) hl7 D hD
  have HAP := hide hap
  have HRC := hide (fun wy => refCost_any s.length wy (by omega))
  have hcan : ∀ k c, can (D1.crash []) k c → c = whole [] := by
    intro k c hc
    rcases hc with hc | hc
    · rw [crash_none, hD1D, ← hD] at hc
      exact new_can 24 k c (Or.inl hc)
    · cases hc
  have HSC := hide (fun b base wy (hb : DevAt base wy b (D1.crash [])) => scan_ok hb 0 10 x (by omega) (by rw [crash_none, hD1L]; omega) (by rw [crash_none, hD1L]; omega) rfl (hFine.crash []).cur (by omega) (by simp [Dev.crash]))
  rw [scan_blank (D1.crash []) 0 10 x 10 (by omega) (by rw [crash_none, hD1L]; omega) hcan] at HSC
  obtain ⟨m, hm⟩ : ∃ m, s.length = m := ⟨_, rfl⟩
  have hssz : (S s).size = m := hm
  rw [hm] at HRC her
  generalize Codec.cost m = c at *
  unfold AV at HSC HBG
  have HHER := hide her
  have HHER2 := hide her2
  clear hap hcan hD hD1D her her2 earm hx hn hm
  by_cases h200 : 200 < n
  · have hcut : (S t).extract 0 200 = S s := by rw [S_cut, List.drop_zero, hse]
    have hm200 : m = 200 := by
      have h1 : (S s).size = s.length := rfl
      have h2 : s.length = 200 := by rw [hse, List.length_take]; have : (S t).size = t.length := rfl; omega
      omega
    subst hm200
    clear hse
    have hA200 : (200 : Int) < (n : Int) := by omega
    have hA201 : (200 : Int) ≤ (n : Int) := by omega
    go_enter Tryd.func7, Tryd.ntmps7
    go_wp2_with fail
    refine (unhide HAW _).mono ?_
    rintro e w1 ⟨rfl, hb1⟩
    obtain ⟨w2, hw2⟩ : ∃ w2, w1.alloc (.cells #[.int .i64 0, .int .i64 10] 25) = w2 := ⟨_, rfl⟩
    obtain ⟨A, hA⟩ : ∃ A, w1.heap.size = A := ⟨_, rfl⟩
    have hb12 : Below w.heap.size w w2 := by rw [← hw2]; exact hb1.alloc hb1.size _
    have hx2 : w2.heap[A]? = some (.cells #[.int .i64 0, .int .i64 10] 25 (0, 0)) := by rw [← hw2, ← hA]; exact heap_alloc_new w1 _
    have p0 := bcell hx2 0
    have p1 := bcell hx2 1
    simp only [List.getElem?_toArray, List.getElem?_cons_zero, List.getElem?_cons_succ] at p0 p1
    have hA2 := block_lt hx2
    have HB2 := hide hb12
    have HSW2 := hide hb12.size
    clear hb1 hb12 HAW
    go_wp2_with fail
    refine (unhide HBG _).mono ?_
    rintro e w3 ⟨b, lb, rfl, hl3, hb3⟩
    have hx3 := (hb3.block A (block_lt hx2)).trans hx2
    have HX3 := hide hx3
    have HL3 := hide hl3
    have HNX := hide (next_any hl3.log)
    have HB3 := hide ((unhide HB2).trans (hb3.mono (unhide HB2).size))
    have HS3 := hide hb3.size
    clear hx2 hx3 hl3 hb3 HBG HB2 p0 p1 hw2 hA
    go_wp2_with fail
    refine (unhide HNX).mono ?_
    rintro e w4 ⟨rfl, rfl⟩
    go_wp2_with fail
    refine (unhide HARM b w2.heap.size w4 (unhide HL3).dev).mono ?_
    rintro e w5 ⟨rfl, hd5, hs5⟩
    have HL5 := hide ((unhide HL3).step hd5 hs5)
    have HST5 := hide (show LStep b lb w4 w5 from LStep.of hs5)
    have hB5 : w2.heap.size ≤ w5.heap.size := Nat.le_trans (unhide HS3) hs5.size
    have HAP5 := hide (unhide HAP b lb w2.heap.size w5 (unhide HL5) hB5)
    clear hd5 hs5 HAP HARM hB5
    go_wp2_with fail
    refine (unhide HAP5).mono ?_
    rintro e w6 ⟨rfl, hl6, hs6⟩
    have HST6 := hide ((unhide HST5).trans hs6)
    have hb6 : Below w2.heap.size w4 w6 := (unhide HST6).below (unhide HL3) (unhide HS3)
    have hx6 := (hb6.block A (by exact hA2)).trans (unhide HX3)
    obtain ⟨w7, hw7⟩ : ∃ w7, w6.alloc (.cells #[.int .i64 rv0, .int .i64 rv1, .string rv2] 37) = w7 := ⟨_, rfl⟩
    have hb67 : Below w6.heap.size w6 w7 := by rw [← hw7]; exact (Below.refl _ _).alloc (Nat.le_refl _) _
    have hl7 := (hl6.later hb67).1
    have hx7 := (hb67.block A (block_lt hx6)).trans hx6
    have HNX7 := hide (next_any hl7.log)
    have HB7 := hide (((unhide HB3).trans (hb6.mono (unhide HSW2))).trans (hb67.mono (by have := (unhide HB3).size; have := hb6.size; omega)))
    have HCR := hide (crash_any hl7.dev hDok (.slice none 0 0) [] (numrow_nil _) (by omega) (by rw [hD1L]; omega) (by simp))
    have HL7 := hide hl7
    have HX7 := hide hx7
    clear hl6 hs6 hb6 hx6 hb67 hl7 hx7 HAP5 HST5 HST6 HX3 HL5 HNX
    go_wp2_with fail
    refine (unhide HRC _).mono ?_
    rintro e w8 ⟨rfl, rfl⟩
    have hg1 : (((er : Int) == 0) != decide ((c : Int) ≤ (l : Int))) = false := by
      have := unhide HHER
      by_cases hc : c ≤ l
      · rw [this.2 hc]; simp; omega
      · have he : er ≠ 0 := fun e => hc (this.1 e)
        have : ((er : Int) == 0) = false := by simp; exact he
        rw [this]; simp; omega
    by_cases her0 : er = 0
    · subst her0
      have hcl : (c : Int) ≤ (l : Int) := by have := (unhide HHER).1 rfl; omega
      clear hg1
      go_wp2_with fail
      refine (unhide HCR).mono ?_
      rintro e w9 ⟨rfl, hd9, hs9⟩
      have hb89 : Below w2.heap.size w8 w9 := hs9.below (unhide HL7).dev (by have := (unhide HL7).dev.lt; have := (unhide HL7).dev.lo; omega)
      have hx9 := (hb89.block A hA2).trans (unhide HX7)
      have p0 := bcell hx9 0
      have p1 := bcell hx9 1
      simp only [List.getElem?_toArray, List.getElem?_cons_zero, List.getElem?_cons_succ] at p0 p1
      have HSC9 := hide (unhide HSC b w2.heap.size w9 hd9)
      have HB9 := hide ((unhide HB7).trans (hb89.mono (unhide HSW2)))
      clear hd9 hs9 hb89 hx9 HCR HSC HNX7 HX7
      go_wp2_with fail
      refine (unhide HSC9).mono ?_
      rintro e w10 ⟨v, rfl, ho, hb10⟩
      obtain ⟨ao, c10, rfl, _⟩ := ownsRow_slice ho
      have HB10 := hide ((unhide HB9).trans (hb10.mono (unhide HB9).size))
      clear hb10 ho HSC9
      go_wp2_with fail
      go_ret
      exact ⟨rfl, unhide HB10⟩
    · obtain ⟨h16, hnx⟩ := unhide HHER2 her0
      subst h16 hnx
      have hcl : ¬ (c : Int) ≤ (l : Int) := by have := unhide HHER; omega
      clear hg1
      go_wp2_with fail
      refine (unhide HNX7).mono ?_
      rintro e w8 ⟨rfl, rfl⟩
      go_wp2_with fail
      refine (unhide HCR).mono ?_
      rintro e w9 ⟨rfl, hd9, hs9⟩
      have hb89 : Below w2.heap.size w8 w9 := hs9.below (unhide HL7).dev (by have := (unhide HL7).dev.lt; have := (unhide HL7).dev.lo; omega)
      have hx9 := (hb89.block A hA2).trans (unhide HX7)
      have p0 := bcell hx9 0
      have p1 := bcell hx9 1
      simp only [List.getElem?_toArray, List.getElem?_cons_zero, List.getElem?_cons_succ] at p0 p1
      have HSC9 := hide (unhide HSC b w2.heap.size w9 hd9)
      have HB9 := hide ((unhide HB7).trans (hb89.mono (unhide HSW2)))
      clear hd9 hs9 hb89 hx9 HCR HSC HNX7 HX7
      go_wp2_with fail
      refine (unhide HSC9).mono ?_
      rintro e w10 ⟨v, rfl, ho, hb10⟩
      obtain ⟨ao, c10, rfl, _⟩ := ownsRow_slice ho
      have HB10 := hide ((unhide HB9).trans (hb10.mono (unhide HB9).size))
      clear hb10 ho HSC9
      go_wp2_with fail
      go_ret
      exact ⟨rfl, unhide HB10⟩
  · have hst : s = t := by rw [hse]; exact List.take_of_length_le (by have : (S t).size = t.length := rfl; omega)
    clear hse
    subst hst
    have hA200 : ¬ (200 : Int) < (n : Int) := by omega
    have hmn : m = n := by omega
    subst hmn
    go_enter Tryd.func7, Tryd.ntmps7
    go_wp2_with fail
    refine (unhide HAW _).mono ?_
    rintro e w1 ⟨rfl, hb1⟩
    obtain ⟨w2, hw2⟩ : ∃ w2, w1.alloc (.cells #[.int .i64 0, .int .i64 10] 25) = w2 := ⟨_, rfl⟩
    obtain ⟨A, hA⟩ : ∃ A, w1.heap.size = A := ⟨_, rfl⟩
    have hb12 : Below w.heap.size w w2 := by rw [← hw2]; exact hb1.alloc hb1.size _
    have hx2 : w2.heap[A]? = some (.cells #[.int .i64 0, .int .i64 10] 25 (0, 0)) := by rw [← hw2, ← hA]; exact heap_alloc_new w1 _
    have p0 := bcell hx2 0
    have p1 := bcell hx2 1
    simp only [List.getElem?_toArray, List.getElem?_cons_zero, List.getElem?_cons_succ] at p0 p1
    have hA2 := block_lt hx2
    have HB2 := hide hb12
    have HSW2 := hide hb12.size
    clear hb1 hb12 HAW
    go_wp2_with fail
    refine (unhide HBG _).mono ?_
    rintro e w3 ⟨b, lb, rfl, hl3, hb3⟩
    have hx3 := (hb3.block A (block_lt hx2)).trans hx2
    have HX3 := hide hx3
    have HL3 := hide hl3
    have HNX := hide (next_any hl3.log)
    have HB3 := hide ((unhide HB2).trans (hb3.mono (unhide HB2).size))
    have HS3 := hide hb3.size
    clear hx2 hx3 hl3 hb3 HBG HB2 p0 p1 hw2 hA
    go_wp2_with fail
    refine (unhide HNX).mono ?_
    rintro e w4 ⟨rfl, rfl⟩
    go_wp2_with fail
    refine (unhide HARM b w2.heap.size w4 (unhide HL3).dev).mono ?_
    rintro e w5 ⟨rfl, hd5, hs5⟩
    have HL5 := hide ((unhide HL3).step hd5 hs5)
    have HST5 := hide (show LStep b lb w4 w5 from LStep.of hs5)
    have hB5 : w2.heap.size ≤ w5.heap.size := Nat.le_trans (unhide HS3) hs5.size
    have HAP5 := hide (unhide HAP b lb w2.heap.size w5 (unhide HL5) hB5)
    clear hd5 hs5 HAP HARM hB5
    go_wp2_with fail
    refine (unhide HAP5).mono ?_
    rintro e w6 ⟨rfl, hl6, hs6⟩
    have HST6 := hide ((unhide HST5).trans hs6)
    have hb6 : Below w2.heap.size w4 w6 := (unhide HST6).below (unhide HL3) (unhide HS3)
    have hx6 := (hb6.block A (by exact hA2)).trans (unhide HX3)
    obtain ⟨w7, hw7⟩ : ∃ w7, w6.alloc (.cells #[.int .i64 rv0, .int .i64 rv1, .string rv2] 37) = w7 := ⟨_, rfl⟩
    have hb67 : Below w6.heap.size w6 w7 := by rw [← hw7]; exact (Below.refl _ _).alloc (Nat.le_refl _) _
    have hl7 := (hl6.later hb67).1
    have hx7 := (hb67.block A (block_lt hx6)).trans hx6
    have HNX7 := hide (next_any hl7.log)
    have HB7 := hide (((unhide HB3).trans (hb6.mono (unhide HSW2))).trans (hb67.mono (by have := (unhide HB3).size; have := hb6.size; omega)))
    have HCR := hide (crash_any hl7.dev hDok (.slice none 0 0) [] (numrow_nil _) (by omega) (by rw [hD1L]; omega) (by simp))
    have HL7 := hide hl7
    have HX7 := hide hx7
    clear hl6 hs6 hb6 hx6 hb67 hl7 hx7 HAP5 HST5 HST6 HX3 HL5 HNX
    go_wp2_with fail
    refine (unhide HRC _).mono ?_
    rintro e w8 ⟨rfl, rfl⟩
    have hg1 : (((er : Int) == 0) != decide ((c : Int) ≤ (l : Int))) = false := by
      have := unhide HHER
      by_cases hc : c ≤ l
      · rw [this.2 hc]; simp; omega
      · have he : er ≠ 0 := fun e => hc (this.1 e)
        have : ((er : Int) == 0) = false := by simp; exact he
        rw [this]; simp; omega
    by_cases her0 : er = 0
    · subst her0
      have hcl : (c : Int) ≤ (l : Int) := by have := (unhide HHER).1 rfl; omega
      clear hg1
      go_wp2_with fail
      refine (unhide HCR).mono ?_
      rintro e w9 ⟨rfl, hd9, hs9⟩
      have hb89 : Below w2.heap.size w8 w9 := hs9.below (unhide HL7).dev (by have := (unhide HL7).dev.lt; have := (unhide HL7).dev.lo; omega)
      have hx9 := (hb89.block A hA2).trans (unhide HX7)
      have p0 := bcell hx9 0
      have p1 := bcell hx9 1
      simp only [List.getElem?_toArray, List.getElem?_cons_zero, List.getElem?_cons_succ] at p0 p1
      have HSC9 := hide (unhide HSC b w2.heap.size w9 hd9)
      have HB9 := hide ((unhide HB7).trans (hb89.mono (unhide HSW2)))
      clear hd9 hs9 hb89 hx9 HCR HSC HNX7 HX7
      go_wp2_with fail
      refine (unhide HSC9).mono ?_
      rintro e w10 ⟨v, rfl, ho, hb10⟩
      obtain ⟨ao, c10, rfl, _⟩ := ownsRow_slice ho
      have HB10 := hide ((unhide HB9).trans (hb10.mono (unhide HB9).size))
      clear hb10 ho HSC9
      go_wp2_with fail
      go_ret
      exact ⟨rfl, unhide HB10⟩
    · obtain ⟨h16, hnx⟩ := unhide HHER2 her0
      subst h16 hnx
      have hcl : ¬ (c : Int) ≤ (l : Int) := by have := unhide HHER; omega
      clear hg1
      go_wp2_with fail
      refine (unhide HNX7).mono ?_
      rintro e w8 ⟨rfl, rfl⟩
      go_wp2_with fail
      refine (unhide HCR).mono ?_
      rintro e w9 ⟨rfl, hd9, hs9⟩
      have hb89 : Below w2.heap.size w8 w9 := hs9.below (unhide HL7).dev (by have := (unhide HL7).dev.lt; have := (unhide HL7).dev.lo; omega)
      have hx9 := (hb89.block A hA2).trans (unhide HX7)
      have p0 := bcell hx9 0
      have p1 := bcell hx9 1
      simp only [List.getElem?_toArray, List.getElem?_cons_zero, List.getElem?_cons_succ] at p0 p1
      have HSC9 := hide (unhide HSC b w2.heap.size w9 hd9)
      have HB9 := hide ((unhide HB7).trans (hb89.mono (unhide HSW2)))
      clear hd9 hs9 hb89 hx9 HCR HSC HNX7 HX7
      go_wp2_with fail
      refine (unhide HSC9).mono ?_
      rintro e w10 ⟨v, rfl, ho, hb10⟩
      obtain ⟨ao, c10, rfl, _⟩ := ownsRow_slice ho
      have HB10 := hide ((unhide HB9).trans (hb10.mono (unhide HB9).size))
      clear hb10 ho HSC9
      go_wp2_with fail
      go_ret
      exact ⟨rfl, unhide HB10⟩
end Go.Proofs.YtkohcfmbfafkgaaDoor
