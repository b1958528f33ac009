/- The contract of a node's Check. -/
import Derived.Test.YtochaiinofhdhaaNSplit
import Derived.Test.YtochaiinofhdhaaCOrderMath
namespace Go.Proofs.Ytochaiinofhdhaa
open Go.RowKit
set_option linter.unusedVariables false
set_option maxRecDepth 100000

theorem S_lt (a b : List UInt8) : Op.bytesLess (S a).toList (S b).toList = Codec.lt a b := by rw [S_list, S_list]; rfl
theorem S_le (a b : List UInt8) : (Op.bytesLess (S a).toList (S b).toList || (S a).toList == (S b).toList) = !Codec.lt b a := by
  rw [S_lt, S_list, S_list]
  cases h1 : Codec.lt a b
  · cases h2 : Codec.lt b a
    · have := Codec.lt_total a b h1 h2
      subst this
      simp
    · simp
      intro e
      subst e
      rw [h1] at h2
      exact absurd h2 (by decide)
  · rw [Codec.lt_asym a b h1]
    simp

def ckey (n : Nd) (k : Nat) : Int :=
  if 24 < (n.keys.getD k []).length ∨ n.leaf = true ∧ 32 < (n.vals.getD k []).length then 3
  else if 0 < k ∧ Codec.lt (n.keys.getD (k - 1) []) (n.keys.getD k []) = false then 2 else 0

set_option maxHeartbeats 3200000 in
theorem checkKey_any {w : World} {v : Value} {n : Nd} (h : NdAt w v n) (k : Nat) (hk : k < n.keys.length) (hv : n.leaf = true → k < n.vals.length) :
    Calls Try.prog 39 #[v, .int .i64 (k : Int)] w fun e w' => e = .returned (.int .i64 (ckey n k)) ∧ Below w.heap.size w w' := by
  obtain ⟨kv, u, d, rfl, h1, h2, h3⟩ := h.rows
  obtain ⟨ka, kc, rfl, hkc, hkm⟩ := h1.shape
  obtain ⟨ua, uc, rfl, _⟩ := h2.shape
  obtain ⟨da, dc, rfl, _⟩ := h3.shape
  obtain ⟨kb, ko, hka, hlt, hc⟩ := h1.at k (by rw [T9_length]; exact hk)
  subst hka
  have hcA : ∀ o, (w.alloc o).cell? ⟨kb, ko + k, none⟩ = some (.string (S (n.keys[k]'hk))) := fun o => by
    rw [(below_box o).cell (p := ⟨kb, ko + k, none⟩) hlt, hc]
    simp [T9]
  have hne : w.heap.size ≠ kb := by omega
  have hgk : n.keys.getD k [] = n.keys[k]'hk := by simp [List.getD, hk]
  rw [T9_length] at hkc
  unfold maxLen at hkm
  have hi0 : (0 : Int) ≤ (k : Int) := by omega
  have hi1 : (k : Int) < ((n.keys.length : Nat) : Int) := by omega
  rw [T9_length, T9_length, I9_length]
  have HFIN : Hid (∀ o, Below w.heap.size w ((w.alloc o).drew)) := fun o => (below_box o).drew
  unfold ckey
  rw [hgk]
  clear hc h h3
  obtain ⟨x, hx⟩ : ∃ x, n.keys[k]'hk = x := ⟨_, rfl⟩
  rw [hx] at hcA ⊢
  have hsx : (S x).size = x.length := rfl
  by_cases hbig : 24 < x.length
  · rw [if_pos (Or.inl hbig)]
    have hb1 : (24 : Int) < ((x.length : Nat) : Int) := by omega
    clear h1 h2 hgk hx
    go_enter Try.func39, Try.ntmps39
    go_wp2_with fail
    go_ret
    exact ⟨rfl, below_box _⟩
  have hb1 : ¬ (24 : Int) < ((x.length : Nat) : Int) := by omega
  have huv : n.leaf = true → ∃ ub uo z, ua = some ⟨ub, uo, none⟩ ∧ n.vals.getD k [] = z ∧ w.heap.size ≠ ub ∧ (∀ o, (w.alloc o).cell? ⟨ub, uo + k, none⟩ = some (.string (S z))) ∧ (k : Int) < ((n.vals.length : Nat) : Int) := fun hl => by
    have hkv := hv hl
    obtain ⟨ub, uo, hua, hult, huc⟩ := h2.at k (by rw [T9_length]; exact hkv)
    refine ⟨ub, uo, _, hua, rfl, by omega, fun o => ?_, by omega⟩
    rw [(below_box o).cell (p := ⟨ub, uo + k, none⟩) hult, huc]
    simp [T9, List.getD, hkv]
  have hprev : 0 < k → ∃ y, n.keys.getD (k - 1) [] = y ∧ (∀ o, (w.alloc o).cell? ⟨kb, ko + (k - 1), none⟩ = some (.string (S y))) := fun h0 => by
    refine ⟨_, rfl, fun o => ?_⟩
    obtain ⟨b, off, e, hl, hc⟩ := h1.at (k - 1) (by rw [T9_length]; omega)
    injection e with e
    injection e with e1 e2
    subst e1 e2
    rw [(below_box o).cell (p := ⟨kb, ko + (k - 1), none⟩) hl, hc]
    simp [T9, List.getD, show k - 1 < n.keys.length by omega]
  clear h1 h2 hgk hx
  by_cases hbv : n.leaf = true ∧ 32 < (n.vals.getD k []).length
  · rw [if_pos (Or.inr hbv)]
    obtain ⟨ub, uo, z, rfl, ez, hne2, hz, hi2⟩ := huv hbv.1
    have hlf := hbv.1
    have hbz := hbv.2
    rw [ez] at hbz
    have hsz : (S z).size = z.length := rfl
    have hb2 : (32 : Int) < ((z.length : Nat) : Int) := by omega
    rw [hlf]
    clear hbv huv hprev ez hv hlf
    go_enter Try.func39, Try.ntmps39
    go_wp2_with fail
    go_ret
    exact ⟨rfl, below_box _⟩
  rw [if_neg (fun h => h.elim hbig hbv)]
  rcases Nat.eq_zero_or_pos k with hk0 | hk0
  · subst hk0
    rw [if_neg (by omega)]
    rw [Nat.add_zero] at hcA
    clear hprev hbig
    cases hlf : n.leaf
    · clear huv hbv hv hlf
      go_enter Try.func39, Try.ntmps39
      go_wp2_with fail
      go_region
      all_goals
        go_wp2_with fail
        go_ret
        exact ⟨rfl, (below_box _).drew⟩
    · obtain ⟨ub, uo, z, rfl, ez, hne2, hz, hi2⟩ := huv hlf
      rw [hlf, ez] at hbv
      have hsz : (S z).size = z.length := rfl
      have hb2 : ¬ (32 : Int) < ((z.length : Nat) : Int) := fun h => hbv ⟨rfl, by omega⟩
      rw [Nat.add_zero] at hz
      clear huv hbv hv hlf ez
      go_enter Try.func39, Try.ntmps39
      go_wp2_with fail
      go_region
      all_goals
        go_wp2_with fail
        go_ret
        exact ⟨rfl, (below_box _).drew⟩
  · obtain ⟨y, ey, hy⟩ := hprev hk0
    rw [ey]
    have hle := S_le x y
    have hkp : (0 : Int) < (k : Int) := by omega
    have hw1 : IntKind.i64.wrap ((k : Int) - 1) = ((k - 1 : Nat) : Int) := by rw [IntKind.wrap_i64]; omega
    have hi4 : (0 : Int) ≤ ((k - 1 : Nat) : Int) := by omega
    have hi5 : ((k - 1 : Nat) : Int) < ((n.keys.length : Nat) : Int) := by omega
    obtain ⟨r, hr⟩ : ∃ r, Codec.lt y x = r := ⟨_, rfl⟩
    rw [hr] at hle ⊢
    clear hprev hbig ey hr
    cases hlf : n.leaf
    · clear huv hbv hv hlf
      cases r
      all_goals
        first | rw [if_pos ⟨hk0, rfl⟩] | rw [if_neg (by simp)]
        go_enter Try.func39, Try.ntmps39
        go_wp2_with fail
        go_region_held3 (fun w' => w'.cell? ⟨w.heap.size, 1, none⟩ = some (.slice (some ⟨kb, ko, none⟩) n.keys.length kc) ∧ w'.cell? ⟨kb, ko + k, none⟩ = some (.string (S x)) ∧ w'.cell? ⟨kb, ko + (k - 1), none⟩ = some (.string (S y))) (go_keep) (fail)
        all_goals
          go_wp2_with fail
          go_ret
          exact ⟨rfl, (below_box _).drew⟩
    · obtain ⟨ub, uo, z, rfl, ez, hne2, hz, hi2⟩ := huv hlf
      rw [hlf, ez] at hbv
      have hsz : (S z).size = z.length := rfl
      have hb2 : ¬ (32 : Int) < ((z.length : Nat) : Int) := fun h => hbv ⟨rfl, by omega⟩
      clear huv hbv hv hlf ez
      cases r
      all_goals
        first | rw [if_pos ⟨hk0, rfl⟩] | rw [if_neg (by simp)]
        go_enter Try.func39, Try.ntmps39
        go_wp2_with fail
        go_region_held3 (fun w' => w'.cell? ⟨w.heap.size, 1, none⟩ = some (.slice (some ⟨kb, ko, none⟩) n.keys.length kc) ∧ w'.cell? ⟨kb, ko + k, none⟩ = some (.string (S x)) ∧ w'.cell? ⟨kb, ko + (k - 1), none⟩ = some (.string (S y))) (go_keep) (fail)
        all_goals
          go_wp2_with fail
          go_ret
          exact ⟨rfl, (below_box _).drew⟩

def Nd.shape (n : Nd) : Bool := if n.leaf then decide (n.vals.length = n.keys.length ∧ n.kids.length = 0) else decide (2 ≤ n.kids.length ∧ n.keys.length = n.kids.length - 1 ∧ n.vals.length = 0)

set_option maxHeartbeats 3200000 in
theorem lists_any {w : World} {v : Value} {n : Nd} (h : NdAt w v n) :
    Calls Try.prog 38 #[v] w fun e w' => e = .returned (.bool n.shape) ∧ Below w.heap.size w w' := by
  obtain ⟨kv, u, d, rfl, h1, h2, h3⟩ := h.rows
  obtain ⟨ka, kc, rfl, hkc, hkm⟩ := h1.shape
  obtain ⟨ua, uc, rfl, huc, hum⟩ := h2.shape
  obtain ⟨da, dc, rfl, hdc, hdm⟩ := h3.shape
  rw [T9_length] at hkc huc
  rw [I9_length] at hdc
  rw [T9_length, T9_length, I9_length]
  unfold maxLen at hkm hum hdm
  unfold Nd.shape
  generalize n.keys.length = a at *
  generalize n.vals.length = b at *
  generalize n.kids.length = c at *
  clear h h1 h2 h3
  have hw : IntKind.i64.wrap ((c : Int) - 1) = (c : Int) - 1 := by rw [IntKind.wrap_i64]; omega
  cases n.leaf
  · simp only [Bool.false_eq_true, if_false]
    by_cases c1 : 2 ≤ c
    · have e1 : (2 : Int) ≤ (c : Int) := by omega
      by_cases c2 : a = c - 1
      · have e2 : ((a : Int) == (c : Int) - 1) = true := by rw [beq_iff_eq]; omega
        by_cases c3 : b = 0
        · have e3 : ((b : Int) == 0) = true := by rw [beq_iff_eq]; omega
          rw [decide_eq_true ⟨c1, c2, c3⟩]
          clear c1 c2 c3
          go_enter Try.func38, Try.ntmps38
          go_wp2
          go_ret
          exact ⟨rfl, below_box _⟩
        · have e3 : ((b : Int) == 0) = false := by rw [beq_eq_false_iff_ne]; omega
          rw [decide_eq_false (fun h => c3 h.2.2)]
          clear c1 c2 c3
          go_enter Try.func38, Try.ntmps38
          go_wp2
          go_ret
          exact ⟨rfl, below_box _⟩
      · have e2 : ((a : Int) == (c : Int) - 1) = false := by rw [beq_eq_false_iff_ne]; omega
        rw [decide_eq_false (fun h => c2 h.2.1)]
        clear c1 c2
        go_enter Try.func38, Try.ntmps38
        go_wp2
        go_ret
        exact ⟨rfl, below_box _⟩
    · have e1 : ¬ (2 : Int) ≤ (c : Int) := by omega
      rw [decide_eq_false (fun h => c1 h.1)]
      clear c1
      go_enter Try.func38, Try.ntmps38
      go_wp2
      go_ret
      exact ⟨rfl, below_box _⟩
  · simp only [if_true]
    by_cases c2 : b = a
    · have e2 : ((b : Int) == (a : Int)) = true := by rw [beq_iff_eq]; omega
      by_cases c3 : c = 0
      · have e3 : ((c : Int) == 0) = true := by rw [beq_iff_eq]; omega
        rw [decide_eq_true ⟨c2, c3⟩]
        clear c2 c3
        go_enter Try.func38, Try.ntmps38
        go_wp2
        go_ret
        exact ⟨rfl, below_box _⟩
      · have e3 : ((c : Int) == 0) = false := by rw [beq_eq_false_iff_ne]; omega
        rw [decide_eq_false (fun h => c3 h.2)]
        clear c2 c3
        go_enter Try.func38, Try.ntmps38
        go_wp2
        go_ret
        exact ⟨rfl, below_box _⟩
    · have e2 : ((b : Int) == (a : Int)) = false := by rw [beq_eq_false_iff_ne]; omega
      rw [decide_eq_false (fun h => c2 h.1)]
      clear c2
      go_enter Try.func38, Try.ntmps38
      go_wp2
      go_ret
      exact ⟨rfl, below_box _⟩
end Go.Proofs.Ytochaiinofhdhaa
