/- A log that goes round: what stands of it is older than its next stamp. -/
import Derived.Test.YtajcaglbbdbibaaDoorWRow
namespace Go.Proofs.YtajcaglbbdbibaaDoor
open Go.RowKit
set_option linter.unusedVariables false
set_option maxRecDepth 100000

structure OD (N m : Nat) (D : Dev) : Prop where
  dn : D.down = false
  ar : D.armed = false
  lf : D.left = 0
  len : D.L.length = 24
  fine : Fine D
  wl : D.W.length ≤ m
  cl : D.calls ≤ m
  old : ∀ k c, can D k c → ∀ s, vw c = some s → s.stamp < N
section
variable {N m : Nat} {D : Dev}
theorem OD.new (N : Nat) : OD N 0 (Dev.new 24) :=
  ⟨rfl, rfl, rfl, by simp [Dev.new], Fine.new 24 (by omega), Nat.le_refl _, Nat.le_refl _, fun k c hc s hs => by rw [new_can 24 k c hc, vw_blank] at hs; cases hs⟩
theorem OD.put (h : OD N m D) (fr ln : Nat) (t : List UInt8) (hl : 0 < ln) (hfl : fr + ln ≤ 24) (hN : 1 ≤ N) (hN2 : N + Codec.cost t.length ≤ 1099511627776) :
    OD (N + Codec.cost t.length) (m + Codec.cost t.length) (Dev.put fr ln t N D) ∧ Dev.puts fr ln t N (Codec.cost t.length) 0 D = (Dev.put fr ln t N D, 0) := by
  refine ⟨⟨h.dn, h.ar, h.lf, h.len, h.fine.writes _ (wlist_fine fr ln t _ _ 0 _ hl (by rw [h.len]; exact hfl) (by omega)) _ rfl rfl, ?_, ?_, ?_⟩, puts_on fr ln t _ hl _ 0 D h.dn h.ar (by rw [h.len]; exact hfl) (by omega)⟩
  · show (D.W ++ wlist fr ln t N (Codec.cost t.length) 0).length ≤ _
    rw [List.length_append, wlist_length]; have := h.wl; omega
  · show D.calls + Codec.cost t.length ≤ _
    have := h.cl; omega
  · intro k c hc s hs
    have hc2 : can D k c ∨ (k, c) ∈ wlist fr ln t N (Codec.cost t.length) 0 := by
      rcases hc with hc | hc
      · exact Or.inl (Or.inl hc)
      · rcases List.mem_append.1 hc with hc | hc
        · exact Or.inl (Or.inr hc)
        · exact Or.inr hc
    rcases hc2 with hc | hc
    · have := h.old k c hc s hs; omega
    · obtain ⟨i, h1, h2, h3, h4⟩ := mem_wlist hc
      rw [h4, vw_sec t N i (by omega) (by omega)] at hs
      cases hs
      show N + i < _
      omega
theorem OD.crash (h : OD N m D) (keep : List Int) : OD N m (D.crash keep) :=
  ⟨rfl, rfl, rfl, by show (lay _ _).length = 24; rw [lay_length]; exact h.len, h.fine.crash keep, Nat.zero_le _, h.cl, fun k c hc => h.old k c (crash_can D keep k c hc)⟩
theorem OD.start (h : OD N m D) (hW : D.W = []) (hm : m ≤ 1000) (fr ln x : Nat) (hx : N ≤ x) : PD fr ln x [] 0 D :=
  PD.start h.dn h.ar h.lf h.len h.fine hW (by have := h.cl; omega) (fun a h1 h2 c hc s hs => by have := h.old _ c hc s hs; omega)
end
/- An Append of such a log, fitting or not. -/
theorem od_append {base : Nat} {w : World} {b lb : Nat} {D : Dev} {fr ln head x m : Nat} (hp : OD x m D) (h : LogAt base w b lb D fr ln head x) (t : List UInt8) (hB : base ≤ w.heap.size) (ht : t.length ≤ 1000) (hl : 0 < ln) (hfl : fr + ln ≤ 24) (hx : 1 ≤ x) (hx2 : x ≤ 1000000) (hh : head ≤ x) (hfr : x ≤ head + ln) (hm : m ≤ 1000000) :
    Calls Tryd.prog 11 #[.pointer (some ⟨lb, 0, none⟩), .string (S t)] w fun e w' => ∃ (er r0 r1 : Int) (rt : ByteArray) (x' : Nat) (D' : Dev), e = .returned (.tuple #[.agg #[.int .i64 r0, .int .i64 r1, .string rt], .int .i64 er]) ∧ OD x' (m + Codec.cost t.length) D' ∧ LogAt base w' b lb D' fr ln head x' ∧ x ≤ x' ∧ x' ≤ x + Codec.cost t.length ∧ x' ≤ head + ln ∧ LStep b lb w w' := by
  have hcb : Codec.cost t.length ≤ 1000 + 1 := Codec.cost_le _ _ (by omega) (by omega)
  by_cases hfit : x - head + Codec.cost t.length ≤ ln
  · obtain ⟨h1, h2⟩ := hp.put fr ln t hl hfl hx (by omega)
    have hap := append_put h t hB (by omega) hh hx (by omega) (by omega) (by omega) hfit (by rw [hp.lf]; omega) (by have := hp.cl; omega) (by have := hp.wl; omega)
    rw [h2] at hap
    refine hap.mono ?_
    rintro e w' ⟨k1, k2, k3⟩
    obtain ⟨rfl, hl'⟩ := k1 rfl
    exact ⟨0, _, _, _, x + Codec.cost t.length, _, rfl, h1, hl', by omega, Nat.le_refl _, by omega, k3⟩
  · refine (append_full h t (by omega) hh (by omega) (by omega) (by omega)).mono ?_
    rintro e w' ⟨rfl, hb⟩
    obtain ⟨h1, h2⟩ := h.later hb
    exact ⟨13, 0, 0, ⟨#[]⟩, x, D, rfl, ⟨hp.dn, hp.ar, hp.lf, hp.len, hp.fine, by have := hp.wl; omega, by have := hp.cl; omega, hp.old⟩, h1, Nat.le_refl _, by omega, hfr, h2⟩
end Go.Proofs.YtajcaglbbdbibaaDoor
