/- The contracts of the document's row and Check. -/
import Derived.Test.YteaiidcconggcaaDoorVCheck2
namespace Go.Proofs.YteaiidcconggcaaDoor
open Go.RowKit
set_option linter.unusedVariables false
set_option maxRecDepth 100000

def rErr (kd : Int) (i : Nat) (x y z : List UInt8) : Int :=
  if 24 < x.length ∨ 24 < y.length then 3
  else if y ≠ [] ∧ kd ≠ 5 ∨ (if kd = 1 then decide (x ≠ []) else if kd = 4 ∨ kd = 5 then decide (i = 0) || Codec.lt z x else if kd = 7 then decide (i = 0) || !Codec.lt x z else true) = false then 2 else 0
theorem rowErr_eq (s : VS) (i : Nat) : s.rowErr i = rErr s.kind i (s.key i) (s.val i) (s.key (i - 1)) := rfl
theorem drewN_low (w : World) (q : Nat) {B : Nat} : Below B w (w.drewN q) := ⟨rfl, rfl, rfl, Nat.le_refl _, fun k hk => rfl⟩

set_option maxHeartbeats 6400000 in
theorem rrow_any {w : World} {a : Option Addr} {c : Nat} (s : VS) (hr : Row2 w (.slice a s.rows.length c) s.rows) (i : Nat) (hi : i < s.rows.length) :
    Calls Tryd.prog 65 #[.int .i64 s.kind, .slice a s.rows.length c, .int .i64 (i : Int)] w fun e w' => e = .returned (.int .i64 (s.rowErr i)) ∧ Below w.heap.size w w' := by
  obtain ⟨_, _, e0, hc, hm⟩ := hr.shape
  injection e0 with e1 e2 e3
  subst e3
  clear e1 e2
  obtain ⟨b, off, rfl, hlt, hcell⟩ := hr.place (by omega)
  unfold maxLen at hm
  rw [rowErr_eq]
  have hk1 : w.cell? ⟨b, off + i * 2, none⟩ = some (.string (S (s.key i))) := by
    rw [(hcell i hi).1]
    simp [VS.key, List.getD, hi]
  have hv1 : w.cell? ⟨b, off + i * 2 + 1, none⟩ = some (.string (S (s.val i))) := by
    rw [(hcell i hi).2]
    simp [VS.val, List.getD, hi]
  have hk0 : 0 < i → ∀ o, (w.alloc o).cell? ⟨b, off + (i - 1) * 2, none⟩ = some (.string (S (s.key (i - 1)))) := fun h0 o => by
    have hi' : i - 1 < s.rows.length := by omega
    rw [(under_box o).cell (p := ⟨b, off + (i - 1) * 2, none⟩) hlt, (hcell (i - 1) hi').1]
    simp [VS.key, List.getD, hi']
  have hi0 : (0 : Int) ≤ (i : Int) := by omega
  have hi1 : (i : Int) < ((s.rows.length : Nat) : Int) := by omega
  have hne : w.heap.size ≠ b := by omega
  generalize s.key i = x at *
  generalize s.val i = y at *
  generalize s.key (i - 1) = z at *
  clear hcell hr
  obtain ⟨kd, n, rows⟩ := s
  dsimp only at *
  have hsx : (S x).size = x.length := rfl
  have hsy : (S y).size = y.length := rfl
  by_cases b1 : 24 < x.length
  · have hR : rErr kd i x y z = 3 := by unfold rErr; rw [if_pos (Or.inl b1)]
    have hb1 : (24 : Int) < ((x.length : Nat) : Int) := by omega
    clear hk0
    rw [hR]
    clear hR
    try clear h0
    go_enter Tryd.func65, Tryd.ntmps65
    go_wp2_with fail
    go_ret
    exact ⟨rfl, by first | exact under_box _ | exact (under_box _).trans (drewN_low _ _) | exact ((under_box _).trans (drewN_low _ _)).trans (drewN_low _ _)⟩
  have hb1 : ¬ (24 : Int) < ((x.length : Nat) : Int) := by omega
  by_cases b2 : 24 < y.length
  · have hR : rErr kd i x y z = 3 := by unfold rErr; rw [if_pos (Or.inr b2)]
    have hb2 : (24 : Int) < ((y.length : Nat) : Int) := by omega
    clear hk0
    rw [hR]
    clear hR
    try clear h0
    go_enter Tryd.func65, Tryd.ntmps65
    go_wp2_with fail
    go_ret
    exact ⟨rfl, by first | exact under_box _ | exact (under_box _).trans (drewN_low _ _) | exact ((under_box _).trans (drewN_low _ _)).trans (drewN_low _ _)⟩
  have hb2 : ¬ (24 : Int) < ((y.length : Nat) : Int) := by omega
  have hS : rErr kd i x y z = if y ≠ [] ∧ kd ≠ 5 ∨ (if kd = 1 then decide (x ≠ []) else if kd = 4 ∨ kd = 5 then decide (i = 0) || Codec.lt z x else if kd = 7 then decide (i = 0) || !Codec.lt x z else true) = false then 2 else 0 := by
    unfold rErr
    rw [if_neg (by omega)]
  have HS := hide hS
  clear hS
  by_cases hy : y ≠ [] ∧ kd ≠ 5
  · have hR : rErr kd i x y z = 2 := by rw [unhide HS, if_pos (Or.inl hy)]
    have he : (S y).toList.isEmpty = false := by rw [S_isEmpty]; cases y with | nil => exact absurd rfl hy.1 | cons _ _ => rfl
    have h5 : (kd != 5) = true := by rw [bne_iff_ne]; exact hy.2
    clear hk0 HS
    rw [hR]
    clear hR
    try clear h0
    go_enter Tryd.func65, Tryd.ntmps65
    go_wp2_with fail
    go_ret
    exact ⟨rfl, by first | exact under_box _ | exact (under_box _).trans (drewN_low _ _) | exact ((under_box _).trans (drewN_low _ _)).trans (drewN_low _ _)⟩
  by_cases c1 : kd = 1
  · subst c1
    have he : (S y).toList.isEmpty = true := by
      rw [S_isEmpty]
      cases y with
      | nil => rfl
      | cons _ _ => exact absurd ⟨by simp, by decide⟩ hy
    by_cases hx : x = []
    · have hxe : (S x).toList.isEmpty = true := by rw [S_isEmpty, hx]; rfl
      have hR : rErr 1 i x y z = 2 := by rw [unhide HS, if_pos (Or.inr (by simp [hx]))]
      clear hk0 HS hx hy
      rw [hR]
      clear hR
      try clear h0
      go_enter Tryd.func65, Tryd.ntmps65
      go_wp2_with fail
      go_ret
      exact ⟨rfl, by first | exact under_box _ | exact (under_box _).trans (drewN_low _ _) | exact ((under_box _).trans (drewN_low _ _)).trans (drewN_low _ _)⟩
    · have hxe : (S x).toList.isEmpty = false := by rw [S_isEmpty]; cases x with | nil => exact absurd rfl hx | cons _ _ => rfl
      have hR : rErr 1 i x y z = 0 := by rw [unhide HS, if_neg (by rintro (h | h); exact hy h; simp [hx] at h)]
      clear hk0 HS hx hy
      rcases Nat.eq_zero_or_pos i with h0 | h0
      · have z0 : ¬ (0 : Int) < (i : Int) := by omega
        have zd : decide (0 < i) = false := decide_eq_false (by omega)
        rw [hR]
        clear hR
        try clear h0
        go_enter Tryd.func65, Tryd.ntmps65
        go_wp2_with fail
        go_quiet (fail)
        go_wp2_with fail
        go_quiet (fail)
        go_wp2_with fail
        go_ret
        exact ⟨rfl, by first | exact under_box _ | exact (under_box _).trans (drewN_low _ _) | exact ((under_box _).trans (drewN_low _ _)).trans (drewN_low _ _)⟩
      · have z0 : (0 : Int) < (i : Int) := by omega
        have zd : decide (0 < i) = true := decide_eq_true (by omega)
        rw [hR]
        clear hR
        try clear h0
        go_enter Tryd.func65, Tryd.ntmps65
        go_wp2_with fail
        go_quiet (fail)
        go_wp2_with fail
        go_quiet (fail)
        go_wp2_with fail
        go_ret
        exact ⟨rfl, by first | exact under_box _ | exact (under_box _).trans (drewN_low _ _) | exact ((under_box _).trans (drewN_low _ _)).trans (drewN_low _ _)⟩
  have e1 : (kd == 1) = false := by rw [beq_eq_false_iff_ne]; exact c1
  by_cases c4 : kd = 4
  · subst c4
    have he : (S y).toList.isEmpty = true := by
      rw [S_isEmpty]
      cases y with
      | nil => rfl
      | cons _ _ => exact absurd ⟨by simp, by decide⟩ hy
    rcases Nat.eq_zero_or_pos i with h0 | h0
    · have z0 : ¬ (0 : Int) < (i : Int) := by omega
      have zd : decide (0 < i) = false := decide_eq_false (by omega)
      have hR : rErr 4 i x y z = 0 := by rw [unhide HS, if_neg (by rintro (h | h); exact hy h; simp [h0] at h)]
      clear hk0 HS hy
      rw [hR]
      clear hR
      try clear h0
      go_enter Tryd.func65, Tryd.ntmps65
      go_wp2_with fail
      go_quiet (fail)
      go_wp2_with fail
      go_quiet (fail)
      go_wp2_with fail
      go_ret
      exact ⟨rfl, by first | exact under_box _ | exact (under_box _).trans (drewN_low _ _) | exact ((under_box _).trans (drewN_low _ _)).trans (drewN_low _ _)⟩
    · have hc0 := hk0 h0
      have hw1 : IntKind.i64.wrap ((i : Int) - 1) = ((i - 1 : Nat) : Int) := by rw [IntKind.wrap_i64]; omega
      have hi2 : (0 : Int) ≤ ((i - 1 : Nat) : Int) := by omega
      have hi3 : ((i - 1 : Nat) : Int) < ((rows.length : Nat) : Int) := by omega
      have z0 : (0 : Int) < (i : Int) := by omega
      have zd : decide (0 < i) = true := decide_eq_true (by omega)
      have hg := S_not_lt z x
      cases hl : Codec.lt z x
      · rw [hl] at hg
        have hR : rErr 4 i x y z = 2 := by rw [unhide HS, if_pos (Or.inr (by simp [hl]; omega))]
        clear hk0 HS hy hl
        rw [hR]
        clear hR
        try clear h0
        go_enter Tryd.func65, Tryd.ntmps65
        go_wp2_with fail
        go_quiet (fail)
        go_wp2_with fail
        go_ret
        exact ⟨rfl, by first | exact under_box _ | exact (under_box _).trans (drewN_low _ _) | exact ((under_box _).trans (drewN_low _ _)).trans (drewN_low _ _)⟩
      · rw [hl] at hg
        have hR : rErr 4 i x y z = 0 := by rw [unhide HS, if_neg (by rintro (h | h); exact hy h; simp [hl] at h)]
        clear hk0 HS hy hl
        rw [hR]
        clear hR
        try clear h0
        go_enter Tryd.func65, Tryd.ntmps65
        go_wp2_with fail
        go_quiet (fail)
        go_wp2_with fail
        go_quiet (fail)
        go_wp2_with fail
        go_ret
        exact ⟨rfl, by first | exact under_box _ | exact (under_box _).trans (drewN_low _ _) | exact ((under_box _).trans (drewN_low _ _)).trans (drewN_low _ _)⟩
  have e4 : (kd == 4) = false := by rw [beq_eq_false_iff_ne]; exact c4
  by_cases c5 : kd = 5
  · subst c5
    obtain ⟨ye, hye⟩ : ∃ ye, (S y).toList.isEmpty = ye := ⟨_, rfl⟩
    rcases Nat.eq_zero_or_pos i with h0 | h0
    · have z0 : ¬ (0 : Int) < (i : Int) := by omega
      have zd : decide (0 < i) = false := decide_eq_false (by omega)
      have hR : rErr 5 i x y z = 0 := by rw [unhide HS, if_neg (by rintro (h | h); exact hy h; simp [h0] at h)]
      clear hk0 HS hy
      rw [hR]
      clear hR
      try clear h0
      go_enter Tryd.func65, Tryd.ntmps65
      go_wp2_with fail
      go_quiet (fail)
      go_wp2_with fail
      go_quiet (fail)
      go_wp2_with fail
      go_ret
      exact ⟨rfl, by first | exact under_box _ | exact (under_box _).trans (drewN_low _ _) | exact ((under_box _).trans (drewN_low _ _)).trans (drewN_low _ _)⟩
    · have hc0 := hk0 h0
      have hw1 : IntKind.i64.wrap ((i : Int) - 1) = ((i - 1 : Nat) : Int) := by rw [IntKind.wrap_i64]; omega
      have hi2 : (0 : Int) ≤ ((i - 1 : Nat) : Int) := by omega
      have hi3 : ((i - 1 : Nat) : Int) < ((rows.length : Nat) : Int) := by omega
      have z0 : (0 : Int) < (i : Int) := by omega
      have zd : decide (0 < i) = true := decide_eq_true (by omega)
      have hg := S_not_lt z x
      cases hl : Codec.lt z x
      · rw [hl] at hg
        have hR : rErr 5 i x y z = 2 := by rw [unhide HS, if_pos (Or.inr (by simp [hl]; omega))]
        clear hk0 HS hy hl
        rw [hR]
        clear hR
        try clear h0
        go_enter Tryd.func65, Tryd.ntmps65
        go_wp2_with fail
        go_quiet (fail)
        go_wp2_with fail
        go_ret
        exact ⟨rfl, by first | exact under_box _ | exact (under_box _).trans (drewN_low _ _) | exact ((under_box _).trans (drewN_low _ _)).trans (drewN_low _ _)⟩
      · rw [hl] at hg
        have hR : rErr 5 i x y z = 0 := by rw [unhide HS, if_neg (by rintro (h | h); exact hy h; simp [hl] at h)]
        clear hk0 HS hy hl
        rw [hR]
        clear hR
        try clear h0
        go_enter Tryd.func65, Tryd.ntmps65
        go_wp2_with fail
        go_quiet (fail)
        go_wp2_with fail
        go_quiet (fail)
        go_wp2_with fail
        go_ret
        exact ⟨rfl, by first | exact under_box _ | exact (under_box _).trans (drewN_low _ _) | exact ((under_box _).trans (drewN_low _ _)).trans (drewN_low _ _)⟩
  have e5 : (kd == 5) = false := by rw [beq_eq_false_iff_ne]; exact c5
  have h5 : (kd != 5) = true := by rw [bne_iff_ne]; exact c5
  have he : (S y).toList.isEmpty = true := by
    rw [S_isEmpty]
    cases y with
    | nil => rfl
    | cons _ _ => exact absurd ⟨by simp, c5⟩ hy
  by_cases c7 : kd = 7
  · subst c7
    rcases Nat.eq_zero_or_pos i with h0 | h0
    · have z0 : ¬ (0 : Int) < (i : Int) := by omega
      have zd : decide (0 < i) = false := decide_eq_false (by omega)
      have hR : rErr 7 i x y z = 0 := by rw [unhide HS, if_neg (by rintro (h | h); exact hy h; simp [h0] at h)]
      clear hk0 HS hy
      rw [hR]
      clear hR
      try clear h0
      go_enter Tryd.func65, Tryd.ntmps65
      go_wp2_with fail
      go_quiet (fail)
      go_wp2_with fail
      go_quiet (fail)
      go_wp2_with fail
      go_ret
      exact ⟨rfl, by first | exact under_box _ | exact (under_box _).trans (drewN_low _ _) | exact ((under_box _).trans (drewN_low _ _)).trans (drewN_low _ _)⟩
    · have hc0 := hk0 h0
      have hw1 : IntKind.i64.wrap ((i : Int) - 1) = ((i - 1 : Nat) : Int) := by rw [IntKind.wrap_i64]; omega
      have hi2 : (0 : Int) ≤ ((i - 1 : Nat) : Int) := by omega
      have hi3 : ((i - 1 : Nat) : Int) < ((rows.length : Nat) : Int) := by omega
      have z0 : (0 : Int) < (i : Int) := by omega
      have zd : decide (0 < i) = true := decide_eq_true (by omega)
      have hg := S_gt z x
      cases hl : Codec.lt x z
      · rw [hl] at hg
        have hg2 : (!Op.bytesLess (S z).toList (S x).toList && !(S z).toList == (S x).toList) = false := by rw [← hg]; simp
        have hR : rErr 7 i x y z = 0 := by rw [unhide HS, if_neg (by rintro (h | h); exact hy h; simp [hl] at h)]
        clear hk0 HS hy hl
        rw [hR]
        clear hR
        try clear h0
        go_enter Tryd.func65, Tryd.ntmps65
        go_wp2_with fail
        go_quiet (fail)
        go_wp2_with fail
        go_quiet (fail)
        go_wp2_with fail
        go_ret
        exact ⟨rfl, by first | exact under_box _ | exact (under_box _).trans (drewN_low _ _) | exact ((under_box _).trans (drewN_low _ _)).trans (drewN_low _ _)⟩
      · rw [hl] at hg
        have hg2 : (!Op.bytesLess (S z).toList (S x).toList && !(S z).toList == (S x).toList) = true := by rw [← hg]; simp
        have hR : rErr 7 i x y z = 2 := by rw [unhide HS, if_pos (Or.inr (by simp [hl]; omega))]
        clear hk0 HS hy hl
        rw [hR]
        clear hR
        try clear h0
        go_enter Tryd.func65, Tryd.ntmps65
        go_wp2_with fail
        go_quiet (fail)
        go_wp2_with fail
        go_quiet (fail)
        go_wp2_with fail
        go_ret
        exact ⟨rfl, by first | exact under_box _ | exact (under_box _).trans (drewN_low _ _) | exact ((under_box _).trans (drewN_low _ _)).trans (drewN_low _ _)⟩
  have e7 : (kd == 7) = false := by rw [beq_eq_false_iff_ne]; exact c7
  have hR : rErr kd i x y z = 0 := by rw [unhide HS, if_neg (by rintro (h | h); exact hy h; simp [c1, c4, c5, c7] at h)]
  clear hk0 HS hy
  rcases Nat.eq_zero_or_pos i with h0 | h0
  · have z0 : ¬ (0 : Int) < (i : Int) := by omega
    have zd : decide (0 < i) = false := decide_eq_false (by omega)
    rw [hR]
    clear hR
    try clear h0
    go_enter Tryd.func65, Tryd.ntmps65
    go_wp2_with fail
    go_quiet (fail)
    go_wp2_with fail
    go_quiet (fail)
    go_wp2_with fail
    go_ret
    exact ⟨rfl, by first | exact under_box _ | exact (under_box _).trans (drewN_low _ _) | exact ((under_box _).trans (drewN_low _ _)).trans (drewN_low _ _)⟩
  · have z0 : (0 : Int) < (i : Int) := by omega
    have zd : decide (0 < i) = true := decide_eq_true (by omega)
    rw [hR]
    clear hR
    try clear h0
    go_enter Tryd.func65, Tryd.ntmps65
    go_wp2_with fail
    go_quiet (fail)
    go_wp2_with fail
    go_quiet (fail)
    go_wp2_with fail
    go_ret
    exact ⟨rfl, by first | exact under_box _ | exact (under_box _).trans (drewN_low _ _) | exact ((under_box _).trans (drewN_low _ _)).trans (drewN_low _ _)⟩
end Go.Proofs.YteaiidcconggcaaDoor
