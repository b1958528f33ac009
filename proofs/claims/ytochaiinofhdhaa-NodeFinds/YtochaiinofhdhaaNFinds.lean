/- The walk of NodeFinds. -/
import Derived.Test.YtochaiinofhdhaaNMake
namespace Go.Proofs.Ytochaiinofhdhaa
open Go.RowKit
set_option linter.unusedVariables false
set_option maxRecDepth 100000

theorem scontains_any {w : World} {v : Value} {l : List (List UInt8)} (h : Row w v (T9 l)) (x : List UInt8) :
    Calls Try.prog 32 #[v, .string (S x)] w fun e w' => e = .returned (.bool (decide (x ∈ l))) ∧ Below w.heap.size w w' := by
  obtain ⟨a, c, rfl, h1, h2, h0, h3⟩ := h
  rw [T9_length] at h1 ⊢
  by_cases hz : l = []
  · subst hz
    refine (Try.slices_Contains_string_empty a c (S x) w).mono ?_
    rintro e w' ⟨rfl, rfl⟩
    exact ⟨by simp, Below.refl _ _⟩
  · have hp : 0 < l.length := List.length_pos_iff.2 hz
    obtain ⟨b, off, e, hlt, _⟩ := h3 0 _ (List.getElem?_eq_getElem (by rw [T9_length]; exact hp))
    cases e
    refine (Try.slices_Contains_string b off l.length c (l.map S) (S x) w (by simp) (by unfold maxLen at h2; omega) ?_).mono ?_
    · intro j hj
      have hj' : j < l.length := by simpa using hj
      obtain ⟨b', off', e, _, hc⟩ := h3 j _ (List.getElem?_eq_getElem (by rw [T9_length]; exact hj'))
      cases e
      rw [hc]
      simp [T9, List.getD, hj']
    · rintro e w' ⟨rfl, rfl⟩
      rw [List.take_of_length_le (by simp)]
      have hd : Lib.containsS (l.map S) (S x) = decide (x ∈ l) := by
        rw [Bool.eq_iff_iff, Lib.containsS_iff, decide_eq_true_eq, List.mem_map]
        constructor
        · rintro ⟨y, hy, e⟩
          rw [← S_inj e]; exact hy
        · intro hx; exact ⟨x, hx, rfl⟩
      rw [hd]
      exact ⟨rfl, Below.refl _ _⟩

theorem find_facts (l : List (List UInt8)) (x : List UInt8) (h : Codec.Rise l) (K : Nat) (hK : K = if x ∈ l then Codec.below l x + 1 else Codec.below l x) :
    K ≤ l.length ∧ (∀ hj : K - 1 < l.length, 0 < K → Codec.lt x (l[K - 1]'hj) = false) ∧ (∀ hj : K < l.length, Codec.lt x (l[K]'hj) = true) := by
  have hs := Codec.below_spec l x h
  have hle := Codec.below_le l x
  by_cases hx : x ∈ l
  · rw [if_pos hx] at hK
    obtain ⟨hj, e⟩ := (Codec.below_at l x h).1 hx
    subst hK
    refine ⟨hj, fun _ _ => ?_, fun hj2 => ?_⟩
    · simp only [Nat.add_sub_cancel]
      rw [e]
      exact Codec.lt_irr x
    · have h3 := List.pairwise_iff_getElem.1 h (Codec.below l x) (Codec.below l x + 1) hj hj2 (by omega)
      rw [e] at h3
      exact h3
  · rw [if_neg hx] at hK
    subst hK
    refine ⟨hle, fun hj h0 => Codec.lt_asym _ _ (hs.1 _ hj (by omega)), fun hj => ?_⟩
    have h1 := hs.2 _ hj (Nat.le_refl _)
    rcases Codec.lt_or x (l[Codec.below l x]'hj) with h2 | h2 | h2
    · exact h2
    · exact absurd ((Codec.below_at l x h).2 ⟨hj, h2.symm⟩) hx
    · rw [h2] at h1; exact absurd h1 (by decide)
theorem S_gt (a b : List UInt8) : (!(Op.bytesLess (S a).toList (S b).toList || (S a).toList == (S b).toList)) = Codec.lt b a := by rw [S_le]; simp

set_option maxHeartbeats 6400000 in
theorem nodeFinds_walk (a : Option Addr) (len cap : Nat) (zs : List ByteArray) (w : World) (h : IsStrs w a len cap zs) (s : ByteArray) (hs : s.size ≤ maxLen) :
    Calls Try.prog 6 #[.slice a len cap, .string s] w fun e w' => e = .returned (.bool true) ∧ Below w.heap.size w w' := by
  obtain ⟨l, hll, hlm, hlz, hrow⟩ := h.row
  have HAW := hide (awake_node w)
  have HIN := hide (fun (w1 : World) (hb : Below w.heap.size w w1) => inner_any l [] 6 a len cap (.slice none 0 0) w1 hll hlm hlz (hrow.later hb).words (Row.nil w1) (by decide) (by decide))
  have HCU := hide (fun (w1 : World) => cut_any s 30 w1 hs)
  have e6 : ((6 : Nat) : Int) = 6 := rfl
  have e30 : ((30 : Nat) : Int) = 30 := rfl
  rw [e6] at HIN
  rw [e30] at HCU
  obtain ⟨x, hx⟩ : ∃ x, s.data.toList.take 30 = x := ⟨_, rfl⟩
  rw [hx] at HCU
  have hin : innerOf l [] 6 = ⟨false, Codec.sorts (few l 5 24), [], kidsOf [] ((Codec.sorts (few l 5 24)).length + 1)⟩ := rfl
  rw [hin] at HIN
  have hrise := Codec.sorts_rise (few l 5 24)
  have hcl : (Codec.sorts (few l 5 24)).length ≤ 64 := by
    have h1 := Codec.sorts_length (few l 5 24)
    rw [few_length] at h1
    omega
  generalize Codec.sorts (few l 5 24) = C at *
  clear hll hlm hlz hrow h hs hx hin e6 e30
  go_enter Try.func6, Try.ntmps6
  go_wp2_with fail
  refine (unhide HAW).mono ?_
  rintro e w1 ⟨rfl, hb1⟩
  go_wp2_with fail
  refine (unhide HIN w1 hb1).mono ?_
  rintro e w2 ⟨v2, rfl, ho2, hb2⟩
  obtain ⟨ka, kc, ua, uc, da, dc, rfl⟩ := ho2.shape
  have hs1 := hb1.size
  have hlow2 := hb1.trans (hb2.mono hs1)
  have hs2 := hb2.size
  have HO2 := hide ho2
  have HLOW2 := hide hlow2
  have hkk := kidsOf_length [] (C.length + 1)
  dsimp only at HO2 ⊢
  rw [hkk] at HO2 ⊢
  clear ho2 hb1 hb2 hlow2 HAW HIN
  by_cases hC : C.length = 0
  · have e0 : ((C.length : Int) == 0) = true := by rw [beq_iff_eq]; omega
    go_wp2_with fail
    go_ret
    exact ⟨rfl, (unhide HLOW2).alloc (unhide HLOW2).size _⟩
  have e0 : ((C.length : Int) == 0) = false := by rw [beq_eq_false_iff_ne]; omega
  have HFI := hide (fun (o : Obj) => find_any ((unhide HO2).at.later (below_box o)) hrise x (by show C.length ≤ _; omega))
  obtain ⟨K, hK⟩ : ∃ K, Nd.find ⟨false, C, [], kidsOf [] (C.length + 1)⟩ x = K := ⟨_, rfl⟩
  have hK2 : K = if x ∈ C then Codec.below C x + 1 else Codec.below C x := by
    rw [← hK]
    unfold Nd.find
    simp
  obtain ⟨f1, f2, f3⟩ := find_facts C x hrise K hK2
  rw [hK] at HFI
  dsimp only at HFI
  go_wp2_with fail
  refine (unhide HCU _).mono ?_
  rintro e w3 ⟨rfl, rfl⟩
  go_wp2_with fail
  refine (unhide HFI _).mono ?_
  rintro e w4 ⟨rfl, hb4⟩
  rw [World.size_alloc] at hb4
  obtain ⟨p0, p1, p2, p3, hz4, hlow4⟩ := box4 hb4
  have hrow4 : Row w4 (.slice ka C.length kc) (T9 C) := by
    obtain ⟨k', u', d', e', h1, _, _⟩ := ((unhide HO2).at.later hlow4).rows
    injection e' with e'
    injection e' with e'
    simp only [List.cons.injEq] at e'
    obtain ⟨_, rfl, _⟩ := e'
    exact h1
  obtain ⟨ob, oo, rfl, hol, _⟩ := hrow4.at 0 (by rw [T9_length]; omega)
  have hcell : ∀ j (hj : j < C.length), w4.cell? ⟨ob, oo + j, none⟩ = some (.string (S (C[j]'hj))) := fun j hj => by
    obtain ⟨b', o', e', _, hc⟩ := hrow4.at j (by rw [T9_length]; exact hj)
    cases e'
    rw [hc]
    simp [T9]
  have HCO := hide (scontains_any hrow4 x)
  have k1 : ¬ (K : Int) < 0 := by omega
  have k2 : ¬ ((C.length + 1 : Nat) : Int) ≤ (K : Int) := by omega
  have k2' : ¬ ((C.length : Int) + 1) ≤ (K : Int) := by omega
  generalize decide (x ∈ C) = r at *
  have hrr : (r != r) = false := by simp
  clear HFI hK hK2 hrow4 HCU
  go_wp2_with fail
  refine (unhide HCO).mono ?_
  rintro e w5 ⟨rfl, hb5⟩
  have HFIN := hide ((unhide HLOW2).trans ((hlow4.trans (hb5.mono (by omega))).mono (by have := (unhide HLOW2).size; omega)))
  obtain ⟨q0, q1, q2, q3, hz5, hlow5⟩ := box4 (hb4.trans (hb5.mono hz4))
  have hcell5 : ∀ j (hj : j < C.length), w5.cell? ⟨ob, oo + j, none⟩ = some (.string (S (C[j]'hj))) := fun j hj => by
    rw [hb5.cell (p := ⟨ob, oo + j, none⟩) (by omega)]; exact hcell j hj
  clear p0 p1 p2 p3 hb4 hb5 hcell hlow4 hlow5 HCO
  have FG : ∀ hj : K < C.length, w5.cell? ⟨ob, oo + K, none⟩ = some (.string (S (C[K]'hj))) ∧ (!(Op.bytesLess (S (C[K]'hj)).toList (S x).toList || (S (C[K]'hj)).toList == (S x).toList)) = true := fun hj => ⟨hcell5 K hj, by rw [S_gt]; exact f3 hj⟩
  have FL : ∀ hj : K - 1 < C.length, 0 < K → w5.cell? ⟨ob, oo + (K - 1), none⟩ = some (.string (S (C[K - 1]'hj))) ∧ (Op.bytesLess (S (C[K - 1]'hj)).toList (S x).toList || (S (C[K - 1]'hj)).toList == (S x).toList) = true := fun hj h0 => ⟨hcell5 (K - 1) hj, by rw [S_le, f2 hj h0]; rfl⟩
  have hi0 : (0 : Int) ≤ ((K - 1 : Nat) : Int) := by omega
  have hi1 : ((K - 1 : Nat) : Int) < ((C.length : Nat) : Int) := by omega
  have hi2 : (0 : Int) ≤ (K : Int) := by omega
  clear hcell5 f2 f3
  rcases Nat.eq_zero_or_pos K with h0 | h0
  · have z0 : ((K : Int) == 0) = true := by rw [beq_iff_eq]; omega
    obtain ⟨g1, g2⟩ := FG (by omega)
    generalize C[K]'(by omega) = y at *
    have z1 : ((K : Int) == (C.length : Int)) = false := by rw [beq_eq_false_iff_ne]; omega
    have hi3 : (K : Int) < ((C.length : Nat) : Int) := by omega
    clear FG FL h0
    go_wp2_with fail
    go_ret
    exact ⟨rfl, unhide HFIN⟩
  · have z0 : ((K : Int) == 0) = false := by rw [beq_eq_false_iff_ne]; omega
    have hw1 : IntKind.i64.wrap ((K : Int) - 1) = ((K - 1 : Nat) : Int) := by rw [IntKind.wrap_i64]; omega
    obtain ⟨g1, g2⟩ := FL (by omega) h0
    generalize C[K - 1]'(by omega) = y at *
    by_cases hlt : K < C.length
    · obtain ⟨g3, g4⟩ := FG hlt
      generalize C[K]'hlt = y2 at *
      have z1 : ((K : Int) == (C.length : Int)) = false := by rw [beq_eq_false_iff_ne]; omega
      have hi3 : (K : Int) < ((C.length : Nat) : Int) := by omega
      clear FG FL h0 hlt
      go_wp2_with fail
      go_ret
      exact ⟨rfl, unhide HFIN⟩
    · have z1 : ((K : Int) == (C.length : Int)) = true := by rw [beq_iff_eq]; omega
      clear FG FL h0 hlt
      go_wp2_with fail
      go_ret
      exact ⟨rfl, unhide HFIN⟩
end Go.Proofs.Ytochaiinofhdhaa
