/- The contract of a node's Check. -/
import Derived.Test.YtochaiinofhdhaaNCheck
namespace Go.Proofs.Ytochaiinofhdhaa
open Go.RowKit
set_option linter.unusedVariables false
set_option maxRecDepth 100000

/- The first of numbers that isn't 0. -/
def first (f : Nat → Int) : Nat → Int
  | 0 => 0
  | m + 1 => if first f m ≠ 0 then first f m else f m
theorem first_next {f : Nat → Int} {k : Nat} (h : first f k = 0) (hk : f k = 0) : first f (k + 1) = 0 := by
  unfold first
  rw [if_neg (by simpa using h)]
  exact hk
theorem first_stop {f : Nat → Int} {k m : Nat} (h : first f k = 0) (hk : f k ≠ 0) (hm : k < m) : first f m = f k := by
  induction m with
  | zero => omega
  | succ m ih =>
    unfold first
    by_cases e : k = m
    · subst e
      rw [if_neg (by simpa using h)]
    · rw [ih (by omega), if_pos hk]
theorem first_zero {f : Nat → Int} {m : Nat} (h : ∀ k, k < m → f k = 0) : first f m = 0 := by
  induction m with
  | zero => rfl
  | succ m ih => exact first_next (ih fun k hk => h k (by omega)) (h m (by omega))
theorem first_all {f : Nat → Int} {m : Nat} (h : first f m = 0) : ∀ k, k < m → f k = 0 := by
  induction m with
  | zero => intro k hk; omega
  | succ m ih =>
    unfold first at h
    split at h
    · rename_i hne; exact absurd h hne
    · rename_i hz
      intro k hk
      by_cases e : k = m
      · subst e; exact h
      · exact ih (by simpa using hz) k (by omega)
theorem first_congr {f g : Nat → Int} {m : Nat} (h : ∀ k, k < m → f k = g k) : first f m = first g m := by
  induction m with
  | zero => rfl
  | succ m ih =>
    unfold first
    rw [ih fun k hk => h k (by omega), h m (by omega)]

def ckid (n : Nd) (k : Nat) : Int := if n.kids.getD k 0 < 0 ∨ 128 ≤ n.kids.getD k 0 then 4 else 0
def Nd.check (n : Nd) : Int :=
  if n.over = true then 3 else if n.shape = false then 2 else if first (ckey n) n.keys.length ≠ 0 then first (ckey n) n.keys.length else first (ckid n) n.kids.length

theorem box4 {w w1 : World} {a b c d : Value} {t : TypeId} (hb : Below (w.heap.size + 1) (w.alloc (.cells #[a, b, c, d] t)) w1) :
    w1.cell? ⟨w.heap.size, 0, none⟩ = some a ∧ w1.cell? ⟨w.heap.size, 1, none⟩ = some b ∧ w1.cell? ⟨w.heap.size, 2, none⟩ = some c ∧ w1.cell? ⟨w.heap.size, 3, none⟩ = some d ∧ w.heap.size + 1 ≤ w1.heap.size ∧ Below w.heap.size w w1 := by
  have hs := hb.size
  rw [World.size_alloc] at hs
  refine ⟨?_, ?_, ?_, ?_, hs, (below_box _).trans (hb.mono (by omega))⟩ <;> rw [hb.cell (by show w.heap.size < _; omega)] <;> simp

set_option maxHeartbeats 6400000 in
theorem check_node {w : World} {v : Value} {n : Nd} (h : NdAt w v n) (hs : n.small) :
    Calls Try.prog 11 #[v] w fun e w' => e = .returned (.int .i64 n.check) ∧ Below w.heap.size w w' := by
  obtain ⟨hs1, hs2, hs3⟩ := hs
  have HOV := hide (fun (w1 : World) (hb : Below w.heap.size w w1) => nover_any (h.later hb))
  have HLI := hide (fun (w1 : World) (hb : Below w.heap.size w w1) => lists_any (h.later hb))
  have HCK := hide (fun (w1 : World) (hb : Below w.heap.size w w1) (k : Nat) hk hv => checkKey_any (h.later hb) k hk hv)
  obtain ⟨kv, u, d, rfl, h1, h2, h3⟩ := h.rows
  obtain ⟨ka, kc, rfl, hkc, hkm⟩ := h1.shape
  obtain ⟨ua, uc, rfl, _⟩ := h2.shape
  obtain ⟨da, dc, rfl, _⟩ := h3.shape
  have HD : Hid (∀ i (hi : i < n.kids.length), ∃ b off, da = some ⟨b, off, none⟩ ∧ b < w.heap.size ∧ w.cell? ⟨b, off + i, none⟩ = some (.int .i64 (n.kids[i]'hi))) := fun i hi => by
    obtain ⟨b, off, e, hl, hc⟩ := h3.at i (by rw [I9_length]; exact hi)
    exact ⟨b, off, e, hl, by rw [hc]; simp [I9]⟩
  rw [T9_length, T9_length, I9_length] at HOV HLI HCK ⊢
  obtain ⟨R, hR⟩ : ∃ R, n.check = R := ⟨_, rfl⟩
  rw [hR]
  unfold Nd.check at hR
  clear h h1 h2 h3 hkc hkm
  cases hov : n.over
  case true =>
    rw [hov, if_pos rfl] at hR
    subst hR
    rw [hov] at HOV
    go_enter Try.func11, Try.ntmps11
    go_wp2_with fail
    refine (unhide HOV _ (below_box _)).mono ?_
    rintro e w1 ⟨rfl, hb1⟩
    have HB := hide ((below_box _).trans (hb1.mono (by simp)))
    clear hb1
    go_wp2
    go_ret
    exact ⟨rfl, unhide HB⟩
  rw [hov] at hR HOV
  rw [if_neg (by simp)] at hR
  cases hsh : n.shape
  case false =>
    rw [hsh, if_pos rfl] at hR
    subst hR
    rw [hsh] at HLI
    go_enter Try.func11, Try.ntmps11
    go_wp2_with fail
    refine (unhide HOV _ (below_box _)).mono ?_
    rintro e w1 ⟨rfl, hb1⟩
    rw [World.size_alloc] at hb1
    obtain ⟨p0, p1, p2, p3, hz1, hlow⟩ := box4 hb1
    go_wp2_with fail
    refine (unhide HLI _ hlow).mono ?_
    rintro e w2 ⟨rfl, hb2⟩
    have HB := hide (hlow.trans (hb2.mono (by omega)))
    clear hb1 hb2 p0 p1 p2 p3
    go_wp2
    go_ret
    exact ⟨rfl, unhide HB⟩
  rw [hsh] at HLI hR
  rw [if_neg (by simp)] at hR
  have hvl : n.leaf = true → n.vals.length = n.keys.length := fun hl => by
    unfold Nd.shape at hsh
    rw [if_pos hl] at hsh
    exact (of_decide_eq_true hsh).1
  have HR := hide hR
  have HVL := hide hvl
  clear hR hvl hov hsh
  go_enter Try.func11, Try.ntmps11
  go_wp2_with fail
  refine (unhide HOV _ (below_box _)).mono ?_
  rintro e w1 ⟨rfl, hb1⟩
  rw [World.size_alloc] at hb1
  obtain ⟨p0, p1, p2, p3, hz1, hlow⟩ := box4 hb1
  go_wp2_with fail
  refine (unhide HLI _ hlow).mono ?_
  rintro e w2 ⟨rfl, hb2⟩
  have hb12 := hb1.trans (hb2.mono hz1)
  clear p0 p1 p2 p3 hlow hb1 hb2 hz1
  obtain ⟨p0, p1, p2, p3, hz2, hlow⟩ := box4 hb12
  have HB12 := hide hb12
  clear hb12 HOV HLI hlow
  go_wp2_with fail
  clear p0 p1 p2 p3
  go_loopw [15] (fun i wr => ∃ k : Nat, k ≤ n.keys.length ∧ i = .int .i64 k ∧ first (ckey n) k = 0 ∧ Below (w.heap.size + 1) (w.alloc (.cells #[.bool n.leaf, .slice ka n.keys.length kc, .slice ua n.vals.length uc, .slice da n.kids.length dc] 25)) wr) (fun i _ => n.keys.length - (intOf i).toNat)
  case atStart => exact ⟨0, Nat.zero_le _, rfl, rfl, unhide HB12⟩
  case round =>
    obtain ⟨k, hk, rfl, hf, hbw⟩ := hrel
    obtain ⟨p0, p1, p2, p3, hz, hlow⟩ := box4 hbw
    have HF := hide hf
    have HBW := hide hbw
    clear hf hbw HB12
    by_cases hlt : k < n.keys.length
    · have HC := hide (unhide HCK wr hlow k hlt (fun hl => by have := unhide HVL hl; omega))
      have HC0 := hide (fun (e : ckey n k = 0) => first_next (unhide HF) e)
      have HC1 := hide (fun (e : ckey n k ≠ 0) => first_stop (unhide HF) e hlt)
      clear HCK
      obtain ⟨c, hc⟩ : ∃ c, ckey n k = c := ⟨_, rfl⟩
      rw [hc] at HC HC0 HC1
      clear hc
      go_wp2_with fail
      refine (unhide HC).mono ?_
      rintro e w3 ⟨rfl, hb3⟩
      have HB3 := hide ((unhide HBW).trans (hb3.mono hz))
      have HL3 := hide (hlow.trans (hb3.mono (by omega)))
      clear hb3 hlow HBW HC p0 p1 p2 p3
      by_cases hc0 : c = 0
      · have e2 : (c != 0) = false := by rw [hc0]; rfl
        have HN := hide (unhide HC0 hc0)
        clear hc0 HC0 HC1
        go_wp2_with fail
        go_roundw
        case rel => exact ⟨k + 1, by omega, by go_num, unhide HN, unhide HB3⟩
        case measure => simp [intOf]; omega
      · have e2 : (c != 0) = true := by rw [bne_iff_ne]; exact hc0
        have hRc : R = c := by
          have h1 := unhide HC1 hc0
          rw [← unhide HR, h1, if_pos hc0]
        subst hRc
        clear hc0 HC0 HC1
        go_wp2_with fail
        go_ret
        exact ⟨rfl, unhide HL3⟩
    · have hkn : k = n.keys.length := by omega
      have hR2 : R = first (ckid n) n.kids.length := by
        have h1 := unhide HF
        rw [hkn] at h1
        rw [← unhide HR, h1, if_neg (by simp)]
      have HR2 := hide hR2
      clear hR2 HF HCK hlow
      go_wp2_with fail
      clear p0 p1 p2 p3
      go_loopw [28] (fun i wq => ∃ j : Nat, j ≤ n.kids.length ∧ i = .int .i64 j ∧ first (ckid n) j = 0 ∧ Below (w.heap.size + 1) (w.alloc (.cells #[.bool n.leaf, .slice ka n.keys.length kc, .slice ua n.vals.length uc, .slice da n.kids.length dc] 25)) wq) (fun i _ => n.kids.length - (intOf i).toNat)
      case atStart => exact ⟨0, Nat.zero_le _, rfl, rfl, unhide HBW⟩
      case round =>
        obtain ⟨j, hj, rfl, hf, hbw⟩ := hrel
        obtain ⟨p0, p1, p2, p3, hz, hlow⟩ := box4 hbw
        have HF := hide hf
        have HBQ := hide hbw
        have HLQ := hide hlow
        clear hf hbw p0 p1 p2 p3
        by_cases hlj : j < n.kids.length
        · obtain ⟨db, dof, hda, hdl, hdc⟩ := unhide HD j hlj
          subst hda
          rw [← hlow.cell (p := ⟨db, dof + j, none⟩) hdl] at hdc
          have hgd : n.kids.getD j 0 = n.kids[j]'hlj := by simp [List.getD, hlj]
          have HC0 := hide (fun (e : ckid n j = 0) => first_next (unhide HF) e)
          have HC1 := hide (fun (e : ckid n j ≠ 0) => first_stop (unhide HF) e hlj)
          unfold ckid at HC0 HC1
          rw [hgd] at HC0 HC1
          clear hgd hlow
          generalize n.kids[j]'hlj = y at *
          by_cases hy0 : y < 0
          · rw [if_pos (Or.inl hy0)] at HC1
            have hR4 : R = 4 := by rw [unhide HR2]; exact unhide HC1 (by decide)
            subst hR4
            clear HC0 HC1
            go_wp2_with fail
            go_ret
            exact ⟨rfl, unhide HLQ⟩
          · by_cases hy1 : 128 ≤ y
            · rw [if_pos (Or.inr hy1)] at HC1
              have hR4 : R = 4 := by rw [unhide HR2]; exact unhide HC1 (by decide)
              subst hR4
              clear HC0 HC1
              go_wp2_with fail
              go_ret
              exact ⟨rfl, unhide HLQ⟩
            · rw [if_neg (by omega)] at HC0
              have HN := hide (unhide HC0 rfl)
              clear HC0 HC1
              go_wp2_with fail
              go_roundw
              case rel => exact ⟨j + 1, by omega, by go_num, unhide HN, unhide HBQ⟩
              case measure => simp [intOf]; omega
        · have hjn : j = n.kids.length := by omega
          have hR0 : R = 0 := by rw [unhide HR2, ← hjn]; exact unhide HF
          subst hR0
          go_wp2_with fail
          go_ret
          exact ⟨rfl, unhide HLQ⟩
end Go.Proofs.Ytochaiinofhdhaa
