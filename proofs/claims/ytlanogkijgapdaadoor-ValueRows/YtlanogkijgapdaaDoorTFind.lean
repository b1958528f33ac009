/- The contracts of Find, the program's and the document's. -/
import Derived.Test.YtlanogkijgapdaaDoorTMath
import Derived.Test.YtlanogkijgapdaaDoorVTold
namespace Go.Proofs.YtlanogkijgapdaaDoor
open Go.RowKit
set_option linter.unusedVariables false
set_option maxRecDepth 100000

theorem find_yes (key : List UInt8) (rows : List (List UInt8 × List UInt8)) (z : Int) (k : Nat) (hk : k < rows.length) (hno : ∀ j (h : j < rows.length), j < k → (rows[j]'h).1 ≠ key) (e : (rows[k]'hk).1 = key) : (if decide (hits key rows < rows.length) = true then ((hits key rows : Nat) : Int) else z) = (k : Int) ∧ decide (hits key rows < rows.length) = true := by
  have := hits_past key rows k hno hk e
  rw [this, decide_eq_true hk, if_pos rfl]
  exact ⟨rfl, rfl⟩
theorem find_no (key : List UInt8) (rows : List (List UInt8 × List UInt8)) (z : Int) (hno : ∀ j (h : j < rows.length), (rows[j]'h).1 ≠ key) : (if decide (hits key rows < rows.length) = true then ((hits key rows : Nat) : Int) else z) = z ∧ decide (hits key rows < rows.length) = false := by
  have := hits_none key rows hno
  rw [this, decide_eq_false (by omega), if_neg (by simp)]
  exact ⟨rfl, rfl⟩
theorem find_next {key : List UInt8} {rows : List (List UInt8 × List UInt8)} {k : Nat} (hk : k < rows.length) (hno : ∀ j (h : j < rows.length), j < k → (rows[j]'h).1 ≠ key) (e : (rows[k]'hk).1 ≠ key) : ∀ j (h : j < rows.length), j < k + 1 → (rows[j]'h).1 ≠ key := fun j h hj => by
  by_cases hjk : j = k
  · subst hjk; exact e
  · exact hno j h (by omega)
theorem vfind_any {w : World} {v : Value} {s : VS} (h : StAt w v s) (key : List UInt8) :
    Calls Tryd.prog 25 #[v, .string (S key)] w fun e w' => e = .returned (.tuple #[.int .i64 (if s.has key then ((hits key s.rows : Nat) : Int) else 0), .bool (s.has key)]) ∧ Below w.heap.size w w' := by
  obtain ⟨k0, rfl, hr⟩ := h
  obtain ⟨a, c, rfl, hc, hm⟩ := hr.shape
  unfold maxLen at hm
  obtain ⟨kd, n, rows⟩ := s
  dsimp only at *
  have HROW := hide hr
  have HYES := hide (find_yes key rows 0)
  have HNO := hide (find_no key rows 0)
  obtain ⟨R1, hR1⟩ : ∃ R1 : Int, (if VS.has ⟨kd, n, rows⟩ key = true then ((hits key rows : Nat) : Int) else 0) = R1 := ⟨_, rfl⟩
  obtain ⟨R2, hR2⟩ : ∃ R2, VS.has ⟨kd, n, rows⟩ key = R2 := ⟨_, rfl⟩
  rw [hR2] at hR1 ⊢
  rw [hR1]
  unfold VS.has at hR2
  dsimp only at hR2
  rw [hR2, hR1] at HYES HNO
  clear hr hR1 hR2
  go_enter Tryd.func25, Tryd.ntmps25
  go_wp2_with fail
  go_loopw [11] (fun i wr => ∃ k : Nat, k ≤ rows.length ∧ i = .int .i64 (k : Int) ∧ (∀ j (h : j < rows.length), j < k → (rows[j]'h).1 ≠ key) ∧ Below w.heap.size w wr) (fun i _ => rows.length - (intOf i).toNat)
  case atStart => exact ⟨0, Nat.zero_le _, rfl, fun j _ hj => by omega, under_box _⟩
  case round =>
    obtain ⟨k, hk, rfl, hno, hlow⟩ := hrel
    by_cases hlt : k < rows.length
    · obtain ⟨b, off, rfl, hbl, e1, e2⟩ := (unhide HROW).at k hlt
      rw [← hlow.cell (p := ⟨b, off + k * 2, none⟩) hbl] at e1
      rw [← hlow.cell (p := ⟨b, off + k * 2 + 1, none⟩) hbl] at e2
      have hne : wr.heap.size ≠ b := by have := hlow.size; omega
      have HY := hide (fun e => unhide HYES k hlt hno e)
      have HN := hide (fun (e : (rows[k]'hlt).1 ≠ key) => find_next hlt hno e)
      generalize rows[k]'hlt = r at *
      obtain ⟨x, y⟩ := r
      dsimp only at *
      have hi0 : (0 : Int) ≤ (k : Int) := by omega
      have hi1 : (k : Int) < ((rows.length : Nat) : Int) := by omega
      have s1 := S_eq x key
      have HLW := hide (fun (o : Obj) => hlow.alloc hlow.size o)
      clear hno hlow
      by_cases hx : x = key
      · rw [decide_eq_true hx] at s1
        obtain ⟨rfl, rfl⟩ := unhide HY hx
        clear hx HY HN HYES HNO
        go_wp2_with fail
        exact bodyPost_ret (v := .tuple #[.int .i64 (k : Int), .bool true]) (by simp [results, Tryd.results25, go_sem]) rfl ⟨rfl, unhide HLW _⟩
      · rw [decide_eq_false hx] at s1
        have HN2 := hide (unhide HN hx)
        clear hx HY HN
        go_wp2_with fail
        go_roundw
        case rel => exact ⟨k + 1, by omega, by go_num, unhide HN2, unhide HLW _⟩
        case measure => simp [intOf]; omega
    · have hkn : k = rows.length := by omega
      obtain ⟨rfl, rfl⟩ := unhide HNO fun j h => hno j h (by omega)
      have HLW := hide hlow
      clear hno hlow HYES HNO
      subst hkn
      go_wp2_with fail
      exact bodyPost_ret (v := .tuple #[.int .i64 0, .bool false]) (by simp [results, Tryd.results25, go_sem]) rfl ⟨rfl, unhide HLW⟩
theorem rfind_any {w : World} {v : Value} {s : VS} (h : StAt w v s) (key : List UInt8) :
    Calls Tryd.prog 26 #[v, .string (S key)] w fun e w' => e = .returned (.int .i64 (if s.has key then ((hits key s.rows : Nat) : Int) else -1)) ∧ Below w.heap.size w w' := by
  obtain ⟨k0, rfl, hr⟩ := h
  obtain ⟨a, c, rfl, hc, hm⟩ := hr.shape
  unfold maxLen at hm
  obtain ⟨kd, n, rows⟩ := s
  dsimp only at *
  have HROW := hide hr
  have HYES := hide (find_yes key rows (-1))
  have HNO := hide (find_no key rows (-1))
  obtain ⟨R1, hR1⟩ : ∃ R1 : Int, (if VS.has ⟨kd, n, rows⟩ key = true then ((hits key rows : Nat) : Int) else (-1)) = R1 := ⟨_, rfl⟩
  obtain ⟨R2, hR2⟩ : ∃ R2, VS.has ⟨kd, n, rows⟩ key = R2 := ⟨_, rfl⟩
  rw [hR2] at hR1 ⊢
  rw [hR1]
  unfold VS.has at hR2
  dsimp only at hR2
  rw [hR2, hR1] at HYES HNO
  clear hr hR1 hR2
  go_enter Tryd.func26, Tryd.ntmps26
  go_wp2_with fail
  go_loopw [10] (fun i wr => ∃ k : Nat, k ≤ rows.length ∧ i = .int .i64 (k : Int) ∧ (∀ j (h : j < rows.length), j < k → (rows[j]'h).1 ≠ key) ∧ Below w.heap.size w wr) (fun i _ => rows.length - (intOf i).toNat)
  case atStart => exact ⟨0, Nat.zero_le _, rfl, fun j _ hj => by omega, under_box _⟩
  case round =>
    obtain ⟨k, hk, rfl, hno, hlow⟩ := hrel
    by_cases hlt : k < rows.length
    · obtain ⟨b, off, rfl, hbl, e1, e2⟩ := (unhide HROW).at k hlt
      rw [← hlow.cell (p := ⟨b, off + k * 2, none⟩) hbl] at e1
      rw [← hlow.cell (p := ⟨b, off + k * 2 + 1, none⟩) hbl] at e2
      have hne : wr.heap.size ≠ b := by have := hlow.size; omega
      have HY := hide (fun e => unhide HYES k hlt hno e)
      have HN := hide (fun (e : (rows[k]'hlt).1 ≠ key) => find_next hlt hno e)
      generalize rows[k]'hlt = r at *
      obtain ⟨x, y⟩ := r
      dsimp only at *
      have hi0 : (0 : Int) ≤ (k : Int) := by omega
      have hi1 : (k : Int) < ((rows.length : Nat) : Int) := by omega
      have s1 := S_eq x key
      have HLW := hide (fun (o : Obj) => hlow.alloc hlow.size o)
      clear hno hlow
      by_cases hx : x = key
      · rw [decide_eq_true hx] at s1
        obtain ⟨rfl, rfl⟩ := unhide HY hx
        clear hx HY HN HYES HNO
        go_wp2_with fail
        go_ret
        exact ⟨rfl, unhide HLW _⟩
      · rw [decide_eq_false hx] at s1
        have HN2 := hide (unhide HN hx)
        clear hx HY HN
        go_wp2_with fail
        go_roundw
        case rel => exact ⟨k + 1, by omega, by go_num, unhide HN2, unhide HLW _⟩
        case measure => simp [intOf]; omega
    · have hkn : k = rows.length := by omega
      obtain ⟨rfl, rfl⟩ := unhide HNO fun j h => hno j h (by omega)
      have HLW := hide hlow
      clear hno hlow HYES HNO
      subst hkn
      go_wp2_with fail
      go_ret
      exact ⟨rfl, unhide HLW⟩
end Go.Proofs.YtlanogkijgapdaaDoor
