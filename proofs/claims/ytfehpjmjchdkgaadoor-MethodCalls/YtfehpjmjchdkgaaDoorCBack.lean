/- What is read is written the same, and what is written is read the same: plain functions of an In. -/
import Derived.Test.YtfehpjmjchdkgaaDoorCRefTakeR
import Derived.Test.YtfehpjmjchdkgaaDoorCPutsMath
namespace Go.Proofs.YtfehpjmjchdkgaaDoor
open Go.RowKit
set_option linter.unusedVariables false
set_option maxRecDepth 100000

theorem takeN_most (m : Nat) (s : Codec.St) : (Codec.takeN (m : Int) s).1 ≤ m := by
  unfold Codec.takeN
  split
  · rename_i h
    have : (max (m : Int) 0).toNat = m := by omega
    rwa [this] at h
  · exact Nat.zero_le _
theorem takeI_bounds (s : Codec.St) : -9223372036854775808 ≤ (Codec.takeI s).1 ∧ (Codec.takeI s).1 ≤ 9223372036854775807 := Codec.unfold_bounds _ (Codec.takeU_lt s)
theorem takeU_stuck (e : Int) (he : e ≠ 0) : Codec.takeU ([], e) = (0, ([], e)) := by
  have hf : Codec.fail 1 ([], e) = ([], e) := by simp [Codec.fail, he]
  have h1 : Codec.take 1 ([], e) = ([], ([], e)) := by simp [Codec.take, hf]
  have h2 : Codec.size ([], e) = (0, ([], e)) := by unfold Codec.size; rw [h1]
  have h3 : Codec.digits ([], e) = ([], ([], e)) := by unfold Codec.digits; rw [h2]; simp [Codec.take]
  unfold Codec.takeU
  rw [h3]
theorem takeS_stuck {s : Codec.St} (hi : Inv s) (he : s.2 ≠ 0) (m : Int) : (Codec.takeS m s).2 = s := by
  obtain ⟨l, e⟩ := s
  have hl : l = [] := hi he
  subst hl
  have hu := takeU_stuck e he
  have hn : Codec.takeN m ([], e) = (0, ([], e)) := by
    unfold Codec.takeN
    rw [hu]
    simp
  unfold Codec.takeS
  rw [hn]
  simp [Codec.take]
theorem end_zero {s : Codec.St} (h : (Codec.endOf s).2 = 0) : s.2 = 0 := by
  unfold Codec.endOf at h
  split at h
  · unfold Codec.fail at h
    split at h
    · cases h
    · exact h
  · exact h
theorem fail_zero {c : Int} {s : Codec.St} (h : (Codec.fail c s).2 = 0) : s.2 = 0 := by
  unfold Codec.fail at h
  split at h
  · rename_i h1; exact h1.1
  · exact h
theorem take_zero {n : Nat} {s : Codec.St} (h : (Codec.take n s).2.2 = 0) : s.2 = 0 := by
  unfold Codec.take at h
  split at h
  · exact h
  · exact fail_zero h
theorem size_zero {s : Codec.St} (h : (Codec.size s).2.2 = 0) : s.2 = 0 := by
  unfold Codec.size at h
  split at h
  · exact take_zero h
  · split at h
    · exact take_zero (fail_zero h)
    · exact take_zero h
theorem takeU_zero {s : Codec.St} (h : (Codec.takeU s).2.2 = 0) : s.2 = 0 := by
  unfold Codec.takeU at h
  have hd : (Codec.digits s).2.2 = 0 → s.2 = 0 := fun h => by
    unfold Codec.digits at h
    exact size_zero (take_zero h)
  split at h
  · exact hd h
  · split at h
    · exact hd (fail_zero h)
    · exact hd h
theorem takeN_zero {m : Int} {s : Codec.St} (h : (Codec.takeN m s).2.2 = 0) : s.2 = 0 := by
  unfold Codec.takeN at h
  split at h
  · exact takeU_zero h
  · exact takeU_zero (fail_zero h)
theorem takeS_zero {m : Int} {s : Codec.St} (h : (Codec.takeS m s).2.2 = 0) : s.2 = 0 := by
  unfold Codec.takeS at h
  exact takeN_zero (take_zero h)
theorem fail_not {c : Int} {s : Codec.St} (hc : c ≠ 0) : (Codec.fail c s).2 ≠ 0 := by
  unfold Codec.fail
  by_cases h : s.2 = 0
  · rw [if_pos ⟨h, hc⟩]; exact hc
  · rw [if_neg (fun x => h x.1)]; exact h
theorem takeU_back {s : Codec.St} (h : (Codec.takeU s).2.2 = 0) : s.1 = Codec.enc (Codec.takeU s).1 ++ (Codec.takeU s).2.1 := by
  have h0 := takeU_zero h
  obtain ⟨l, e⟩ := s
  dsimp only at h0
  subst h0
  exact (Codec.takeU_one l).2 h
theorem takeN_back {m : Int} {s : Codec.St} (h : (Codec.takeN m s).2.2 = 0) : s.1 = Codec.enc (Codec.takeN m s).1 ++ (Codec.takeN m s).2.1 := by
  by_cases hm : (Codec.takeU s).1 ≤ (max m 0).toNat
  · have e : Codec.takeN m s = Codec.takeU s := by unfold Codec.takeN; rw [if_pos hm]
    rw [e] at h ⊢
    exact takeU_back h
  · have e : Codec.takeN m s = (0, Codec.fail 3 (Codec.takeU s).2) := by unfold Codec.takeN; rw [if_neg hm]
    rw [e] at h
    exact absurd h (fail_not (by decide))
theorem fold_unfold (n : Nat) : Codec.fold (Codec.unfold n) = n := by
  unfold Codec.unfold
  split
  · unfold Codec.fold
    rw [if_neg (by omega)]
    omega
  · unfold Codec.fold
    rw [if_pos (by omega)]
    omega
theorem takeI_back {s : Codec.St} (h : (Codec.takeI s).2.2 = 0) : s.1 = Codec.enc (Codec.fold (Codec.takeI s).1) ++ (Codec.takeI s).2.1 := by
  have e := takeU_back (s := s) h
  show s.1 = Codec.enc (Codec.fold (Codec.unfold (Codec.takeU s).1)) ++ (Codec.takeU s).2.1
  rw [fold_unfold]
  exact e
theorem takeS_back {m : Int} {s : Codec.St} (h : (Codec.takeS m s).2.2 = 0) : s.1 = Codec.encS (Codec.takeS m s).1 ++ (Codec.takeS m s).2.1 := by
  have hn : (Codec.takeN m s).2.2 = 0 := by unfold Codec.takeS at h; exact take_zero h
  have e := takeN_back hn
  unfold Codec.takeS at h ⊢
  generalize (Codec.takeN m s).1 = n at *
  generalize (Codec.takeN m s).2 = t at *
  by_cases hl : n ≤ t.1.length
  · have e2 : Codec.take n t = (t.1.take n, (t.1.drop n, t.2)) := by unfold Codec.take; rw [if_pos hl]
    rw [e2]
    unfold Codec.encS
    have e3 : (t.1.take n).length = n := by simp; omega
    dsimp only
    rw [e3, List.append_assoc, List.take_append_drop]
    exact e
  · have e2 : Codec.take n t = ([], Codec.fail 1 t) := by unfold Codec.take; rw [if_neg hl]
    rw [e2] at h
    exact absurd h (fail_not (by decide))
theorem takeI_zero {s : Codec.St} (h : (Codec.takeI s).2.2 = 0) : s.2 = 0 := by
  unfold Codec.takeI at h
  exact takeU_zero h
theorem end_none {s : Codec.St} (h : (Codec.endOf s).2 = 0) : s.1 = [] := by
  unfold Codec.endOf at h
  split at h
  · exact absurd h (fail_not (by decide))
  · rename_i h1
    exact List.eq_nil_of_length_eq_zero (by omega)
theorem takeN_enc' (m n : Nat) (rest : List UInt8) (hn : n ≤ m) (hm : m ≤ 1000) : Codec.takeN (m : Int) (Codec.enc n ++ rest, 0) = (n, (rest, 0)) := by
  unfold Codec.takeN
  rw [Codec.takeU_enc n rest (by omega)]
  dsimp only
  rw [if_pos (by omega)]
theorem takeS_enc' (m : Nat) (s rest : List UInt8) (hs : s.length ≤ m) (hm : m ≤ 1000) : Codec.takeS (m : Int) (Codec.encS s ++ rest, 0) = (s, (rest, 0)) := by
  have e : Codec.takeN (m : Int) (Codec.encS s ++ rest, 0) = (s.length, (s ++ rest, 0)) := by
    unfold Codec.encS
    rw [List.append_assoc]
    exact takeN_enc' m s.length (s ++ rest) hs hm
  unfold Codec.takeS
  rw [e]
  simp [Codec.take]
end Go.Proofs.YtfehpjmjchdkgaaDoor
