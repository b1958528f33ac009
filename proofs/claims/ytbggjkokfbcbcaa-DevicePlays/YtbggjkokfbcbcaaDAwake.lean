/- The document's sector of a text, and the answers that the statements ask for first. -/
import Derived.Test.YtbggjkokfbcbcaaDRead
import Derived.Test.YtbggjkokfbcbcaaDNew
import Derived.Test.YtbggjkokfbcbcaaDSpoil
namespace Go.Proofs.Ytbggjkokfbcbcaa
open Go.RowKit
set_option linter.unusedVariables false

theorem whole_take (s : List UInt8) (k : Nat) (hk : k ≤ 64) (h : 64 ≤ s.length + k) : (s ++ List.replicate k 0).take 64 = whole s := by
  unfold whole
  have e : List.replicate 64 (0 : UInt8) = List.replicate k 0 ++ List.replicate (64 - k) 0 := by
    rw [List.replicate_append_replicate]; congr 1; omega
  rw [e, ← List.append_assoc]
  exact (List.take_append_of_le_length (by simp; omega)).symm
theorem numRow_one (w : World) (x : Int) (t : TypeId) : NumRow (w.alloc (.cells #[.int .i64 x] t)) (.slice (some ⟨w.heap.size, 0, none⟩) 1 1) [x] := by
  refine ⟨some ⟨w.heap.size, 0, none⟩, 1, rfl, fun j hj => ⟨w.heap.size, 0, rfl, ?_⟩⟩
  obtain rfl : j = 0 := by simp at hj; omega
  rw [block_cell (heap_alloc_new w _)]
  rfl
theorem S_snoc (l : List UInt8) (c : UInt8) : S l ++ ⟨#[c]⟩ = S (l ++ [c]) := by
  apply ByteArray.ext
  apply Array.ext'
  simp [S]
theorem S_take (l : List UInt8) (n : Nat) : (S l).extract 0 n = S (l.take n) := by
  apply ByteArray.ext
  apply Array.ext'
  simp [S]

theorem fill_any (s : List UInt8) (w : World) :
    Calls Try.prog 20 #[.string (S s)] w fun e w' => e = .returned (.string (S (whole s))) ∧ w' = w := by
  obtain ⟨n, hn⟩ : ∃ n, s.length = n := ⟨_, rfl⟩
  have HN := hide hn
  clear hn
  go_enter Try.func20, Try.ntmps20
  go_wp2_with fail
  go_loopw [0, 3] (fun t i wr => ∃ k : Nat, k ≤ 64 ∧ (n < 64 → n + k ≤ 64) ∧ (64 ≤ n → k = 0) ∧ t = .string (S (s ++ List.replicate k 0)) ∧ i = .int .i64 k ∧ wr = w) (fun _ i _ => 64 - (intOf i).toNat)
  case atStart =>
    exact ⟨0, by omega, by omega, fun _ => rfl, by simp, rfl, rfl⟩
  case round =>
    obtain ⟨k, hk, h1, h2, rfl, rfl, rfl⟩ := hrel
    obtain ⟨z, hz⟩ : ∃ z, s ++ List.replicate k 0 = z := ⟨_, rfl⟩
    have hsz : (S z).size = n + k := by rw [← hz, S_size, List.length_append, List.length_replicate, unhide HN]
    have HZ := hide hz
    rw [hz]
    clear hz
    by_cases hlt : n + k < 64
    · have hk64 : (k : Int) < 64 := by omega
      have hno : ¬9223372036854775807 < n + k + 1 := by omega
      go_wp2_with fail
      refine ⟨⟨k + 1, by omega, by omega, by omega, ?_, by go_num, trivial⟩, by simp [intOf]; omega⟩
      rw [S_snoc, ← unhide HZ, List.append_assoc, ← List.replicate_succ']
    · have hge : 64 ≤ n + k := by omega
      go_wp2_with fail
      all_goals
        go_ret
        refine ⟨ret_string ?_, rfl⟩
        rw [S_take, ← unhide HZ, whole_take s k hk (by rw [unhide HN]; exact hge)]

set_option maxHeartbeats 3200000 in
theorem awake_any (w : World) :
    Calls Try.prog 8 #[] w fun e w' => e = .returned (.bool true) ∧ Below w.heap.size w w' := by
  have HNEW := hide (new_ok 2 w (by omega) (by omega))
  have e1 : (Dev.new 2).writeE 0 [97] = 0 := by decide
  have e2 : ((Dev.new 2).write 0 [97]).writeE 1 [98] = 0 := by decide
  have HW1 := hide (fun b w' (h : DevAt w.heap.size w' b (Dev.new 2)) (hB : w.heap.size ≤ w'.heap.size) => write_any h 0 [97] (by decide) (by decide) (by decide) hB)
  have HW2 := hide (fun b w' (h : DevAt w.heap.size w' b ((Dev.new 2).write 0 [97])) (hB : w.heap.size ≤ w'.heap.size) => write_any h 1 [98] (by decide) (by decide) (by decide) hB)
  have HF0 := hide (fun w => fill_any [] w)
  have HF1 := hide (fun w => fill_any [98] w)
  rw [e1] at HW1
  rw [e2] at HW2
  have hok : (((Dev.new 2).write 0 [97]).write 1 [98]).Ok := ⟨by decide, by decide⟩
  have hd2W : (((Dev.new 2).write 0 [97]).write 1 [98]).W.length ≤ 1099511627776 := by decide
  have hd2L : (((Dev.new 2).write 0 [97]).write 1 [98]).L.length ≤ 1099511627776 := by decide
  have c1 : ((((Dev.new 2).write 0 [97]).write 1 [98]).crash [1]).read 0 = whole [] := by decide
  have c2 : ((((Dev.new 2).write 0 [97]).write 1 [98]).crash [1]).read 1 = whole [98] := by decide
  have c3 : ((((Dev.new 2).write 0 [97]).write 1 [98]).crash [1]).readE 0 = 0 := by decide
  have c4 : ((((Dev.new 2).write 0 [97]).write 1 [98]).crash [1]).readE 1 = 0 := by decide
  have c5 : ((((Dev.new 2).write 0 [97]).write 1 [98]).crash [1]).W.length = 0 := by decide
  have c6 : ((((Dev.new 2).write 0 [97]).write 1 [98]).crash [1]).calls = 2 := by decide
  have HCR := hide (fun b w' (h : DevAt w.heap.size w' b (((Dev.new 2).write 0 [97]).write 1 [98])) kv (hkv : NumRow w' kv [1]) => crash_any h hok kv [1] hkv hd2W hd2L (by decide))
  have HR0 := hide (fun b w' (h : DevAt w.heap.size w' b ((((Dev.new 2).write 0 [97]).write 1 [98]).crash [1])) => dread_any h 0 (by rw [c5]; omega))
  have HR1 := hide (fun b w' (h : DevAt w.heap.size w' b ((((Dev.new 2).write 0 [97]).write 1 [98]).crash [1])) => dread_any h 1 (by rw [c5]; omega))
  have HLO := hide (fun b w' (h : DevAt w.heap.size w' b ((((Dev.new 2).write 0 [97]).write 1 [98]).crash [1])) => loose_any h)
  have HCA := hide (fun b w' (h : DevAt w.heap.size w' b ((((Dev.new 2).write 0 [97]).write 1 [98]).crash [1])) => calls_any h)
  rw [c1, c3] at HR0
  rw [c2, c4] at HR1
  rw [c5] at HLO
  rw [c6] at HCA
  generalize ((((Dev.new 2).write 0 [97]).write 1 [98]).crash [1]) = D3 at *
  generalize (((Dev.new 2).write 0 [97]).write 1 [98]) = D2 at *
  generalize ((Dev.new 2).write 0 [97]) = D1 at *
  generalize Dev.new 2 = D0 at *
  generalize whole [] = z0 at *
  generalize whole [98] = z1 at *
  clear e1 e2 c1 c2 c3 c4 c5 c6 hok hd2W hd2L
  go_enter Try.func8, Try.ntmps8
  go_wp2_with fail
  refine (unhide HNEW).mono ?_
  rintro e w1 ⟨b, rfl, hd1, hb1⟩
  have HD1 := hide hd1
  have HB1 := hide hb1
  clear hd1 hb1 HNEW
  go_wp2_with fail
  refine (unhide HW1 b w1 (unhide HD1) (unhide HB1).size).mono ?_
  rintro e w2 ⟨rfl, hd2, hs2⟩
  have HD2 := hide hd2
  have HB2 := hide ((unhide HB1).trans (hs2.below (unhide HD1) (unhide HB1).size))
  clear hd2 hs2 HW1 HB1 HD1
  go_wp2_with fail
  refine (unhide HW2 b w2 (unhide HD2) (unhide HB2).size).mono ?_
  rintro e w3 ⟨rfl, hd3, hs3⟩
  have HD3 := hide hd3
  have HB3 := hide ((unhide HB2).trans (hs3.below (unhide HD2) (unhide HB2).size))
  clear hd3 hs3 HW2 HB2 HD2
  go_wp2_with fail
  have h3a := (unhide HD3).later ((Below.refl _ w3).alloc (Nat.le_refl _) (.cells #[.int .i64 1] 3))
  have HB3A := hide ((unhide HB3).alloc (unhide HB3).size (.cells #[.int .i64 1] 3))
  refine (unhide HCR b _ h3a.1 _ (numRow_one w3 1 3)).mono ?_
  rintro e w4 ⟨rfl, hd4, hs4⟩
  have HD4 := hide hd4
  have HB4 := hide ((unhide HB3A).trans (hs4.below h3a.1 (by have := (unhide HB3).size; simp; omega)))
  clear h3a hd4 hs4 HCR HB3A HD3 HB3
  go_wp2_with fail
  refine (unhide HR0 b w4 (unhide HD4)).mono ?_
  rintro e w5 ⟨rfl, hb5⟩
  have HD5 := hide ((unhide HD4).later hb5).1
  have HB5 := hide ((unhide HB4).trans (hb5.mono (unhide HB4).size))
  clear hb5 HD4 HB4 HR0
  go_wp2_with fail
  refine (unhide HR1 b w5 (unhide HD5)).mono ?_
  rintro e w6 ⟨rfl, hb6⟩
  have HD6 := hide ((unhide HD5).later hb6).1
  have HB6 := hide ((unhide HB5).trans (hb6.mono (unhide HB5).size))
  clear hb6 HD5 HB5 HR1
  go_wp2_with fail
  refine (unhide HF0 w6).mono ?_
  rintro e w7 ⟨rfl, rfl⟩
  go_wp2_with fail
  refine (unhide HF1 w7).mono ?_
  rintro e w8 ⟨rfl, rfl⟩
  go_wp2_with fail
  refine (unhide HLO b w8 (unhide HD6)).mono ?_
  rintro e w9 ⟨rfl, rfl⟩
  go_wp2_with fail
  refine (unhide HCA b w9 (unhide HD6)).mono ?_
  rintro e w10 ⟨rfl, rfl⟩
  go_wp2_with fail
  go_ret
  exact ⟨rfl, unhide HB6⟩
end Go.Proofs.Ytbggjkokfbcbcaa
