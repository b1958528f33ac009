/- The table of ops: facts, Word, Kind. -/
import Derived.Test.YtfehpjmjchdkgaaDoorMMath
import Derived.Test.YtfehpjmjchdkgaaDoorDBase
import Derived.Test.YtfehpjmjchdkgaaDoorALess
namespace Go.Proofs.YtfehpjmjchdkgaaDoor
open Go.RowKit
set_option linter.unusedVariables false
set_option maxRecDepth 100000

/- The program's table lies in its block. -/
def MD (w : World) : Prop := ∀ k, (h : k < mfacts.length) → w.cell? ⟨0, k * 5, none⟩ = some (.string (S (mfacts[k]'h).word)) ∧ w.cell? ⟨0, k * 5 + 1, none⟩ = some (.int .i64 (mfacts[k]'h).kind) ∧ w.cell? ⟨0, k * 5 + 2, none⟩ = some (.bool (mfacts[k]'h).a) ∧ w.cell? ⟨0, k * 5 + 3, none⟩ = some (.bool (mfacts[k]'h).b) ∧ w.cell? ⟨0, k * 5 + 4, none⟩ = some (.bool (mfacts[k]'h).n)
theorem MD.pos {w : World} (h : MD w) : 0 < w.heap.size := cell_lt (h 0 (by decide)).1
theorem MD.later {w w' : World} (h : MD w) (hb : Below w.heap.size w w') : MD w' := fun k hk => by
  have e := fun o => hb.cell (p := ⟨0, o, none⟩) h.pos
  rw [e, e, e, e, e]
  exact h k hk
def mfV (f : MF) : Value := .agg #[.string (S f.word), .int .i64 f.kind, .bool f.a, .bool f.b, .bool f.n]

set_option maxHeartbeats 1600000 in
theorem facts_any {w : World} (hw : MD w) (op : Int) : Calls Tryd.prog 33 #[.int .i64 op] w fun e w' => e = .returned (mfV (mfact op)) ∧ Below w.heap.size w w' := by
  have hp := hw.pos
  unfold mfact
  by_cases h0 : op < 0
  · rw [if_pos (Or.inl h0)]
    go_enter Tryd.func33, Tryd.ntmps33
    go_wp2_with fail
    exact bodyPost_ret (v := mfV mnone) (by simp [results, Tryd.results33, go_sem]; rfl) rfl ⟨rfl, (Below.refl _ _).alloc (Nat.le_refl _) _⟩
  by_cases h8 : 17 < op
  · rw [if_pos (Or.inr h8)]
    go_enter Tryd.func33, Tryd.ntmps33
    go_wp2_with fail
    exact bodyPost_ret (v := mfV mnone) (by simp [results, Tryd.results33, go_sem]; rfl) rfl ⟨rfl, (Below.refl _ _).alloc (Nat.le_refl _) _⟩
  rw [if_neg (by omega)]
  obtain ⟨k, rfl⟩ : ∃ k : Nat, op = (k : Int) := ⟨op.toNat, by omega⟩
  rw [Int.toNat_natCast]
  have hk : k < mfacts.length := by show k < 18; omega
  obtain ⟨c0, c1, c2, c3, c4⟩ := hw k hk
  have hg : mfacts.getD k mnone = mfacts[k]'hk := by simp [List.getD, hk]
  rw [hg]
  generalize mfacts[k]'hk = x at *
  have hk0 : (0 : Int) ≤ (k : Int) := by omega
  have hk8 : (k : Int) < 18 := by omega
  clear hg hw hk
  go_enter Tryd.func33, Tryd.ntmps33
  go_wp2_with fail
  exact bodyPost_ret (v := mfV x) (by simp [results, Tryd.results33, go_sem]; rfl) rfl ⟨rfl, (Below.refl _ _).alloc (Nat.le_refl _) _⟩

theorem mword_any {w : World} (hw : MD w) (op : Int) : Calls Tryd.prog 30 #[.int .i64 op] w fun e w' => e = .returned (.string (S (mfact op).word)) ∧ Below w.heap.size w w' := by
  have HF := hide (facts_any hw op)
  generalize mfact op = x at *
  unfold mfV at HF
  have hfd : ∀ w, (Instr.field 63 (.agg #[.string (S x.word), .int .i64 x.kind, .bool x.a, .bool x.b, .bool x.n]) 0).run Tryd.prog w = .ok (.string (S x.word)) w := fun _ => by kernel_rfl
  clear hw
  go_enter Tryd.func30, Tryd.ntmps30
  go_wp2_with fail
  refine (unhide HF).mono ?_
  rintro e w1 ⟨rfl, hb⟩
  go_wp2_with fail
  go_ret
  exact ⟨rfl, hb⟩
theorem mkind_any {w : World} (hw : MD w) (op : Int) : Calls Tryd.prog 32 #[.int .i64 op] w fun e w' => e = .returned (.int .i64 (mfact op).kind) ∧ Below w.heap.size w w' := by
  have HF := hide (facts_any hw op)
  generalize mfact op = x at *
  unfold mfV at HF
  have hfd : ∀ w, (Instr.field 63 (.agg #[.string (S x.word), .int .i64 x.kind, .bool x.a, .bool x.b, .bool x.n]) 1).run Tryd.prog w = .ok (.int .i64 x.kind) w := fun _ => by kernel_rfl
  clear hw
  go_enter Tryd.func32, Tryd.ntmps32
  go_wp2_with fail
  refine (unhide HF).mono ?_
  rintro e w1 ⟨rfl, hb⟩
  go_wp2_with fail
  go_ret
  exact ⟨rfl, hb⟩
theorem mmoney_any {w : World} (op : Int) : Calls Tryd.prog 34 #[.int .i64 op] w fun e w' => e = .returned (.bool (decide (op = 5) || decide (op = 6))) ∧ w' = w := by
  by_cases h5 : op = 5
  · subst h5
    go_enter Tryd.func34, Tryd.ntmps34
    go_wp2_with fail
    go_ret
    exact ⟨rfl, rfl⟩
  by_cases h6 : op = 6
  · subst h6
    go_enter Tryd.func34, Tryd.ntmps34
    go_wp2_with fail
    go_ret
    exact ⟨rfl, rfl⟩
  rw [decide_eq_false h5, decide_eq_false h6]
  go_enter Tryd.func34, Tryd.ntmps34
  go_wp2_with fail
  go_ret
  exact ⟨by simp [h5, h6], rfl⟩

/- The op of a word. -/
def opFrom (y : List UInt8) : Nat → Nat → Int
  | 0, _ => 0
  | f + 1, k => if (mfact k).word = y then (k : Int) else opFrom y f (k + 1)
def opOf (y : List UInt8) : Int := opFrom y 18 0
theorem opFrom_step (y : List UInt8) (k : Nat) (hk : k < 18) : opFrom y (18 - k) k = if (mfact k).word = y then (k : Int) else opFrom y (18 - (k + 1)) (k + 1) := by
  have e : 18 - k = (18 - (k + 1)) + 1 := by omega
  rw [e]; rfl

set_option maxHeartbeats 3200000 in
theorem mnamed_any {w : World} (hw : MD w) (y : List UInt8) : Calls Tryd.prog 31 #[.string (S y)] w fun e w' => e = .returned (.int .i64 (opOf y)) ∧ Below w.heap.size w w' := by
  have HST := hide (fun (k : Nat) (hk : k < 18) => opFrom_step y k hk)
  have HEQ := hide (fun (a : List UInt8) => S_eq a y)
  have HK : Hid (opOf y = opFrom y (18 - 0) 0) := rfl
  have HE : Hid (opFrom y (18 - 18) 18 = 0) := rfl
  have HW := hide (fun (w1 : World) (hb : Below w.heap.size w w1) (k : Nat) => mword_any (hw.later hb) (k : Int))
  obtain ⟨R, hR⟩ : ∃ R, opOf y = R := ⟨_, rfl⟩
  rw [hR] at HK ⊢
  clear hw hR
  go_enter Tryd.func31, Tryd.ntmps31
  go_wp2_with fail
  go_loopw [4] (fun i wr => ∃ k : Nat, k ≤ 18 ∧ i = .int .i64 k ∧ R = opFrom y (18 - k) k ∧ Below w.heap.size w wr) (fun i _ => 18 - (intOf i).toNat)
  case atStart => exact ⟨0, Nat.zero_le _, rfl, unhide HK, Below.refl _ _⟩
  case round =>
    obtain ⟨k, hk, rfl, hRk, hbw⟩ := hrel
    clear HK
    by_cases hk8 : k = 18
    · subst hk8
      rw [unhide HE] at hRk
      subst hRk
      go_wp2_with fail
      go_ret
      exact ⟨rfl, hbw⟩
    have hkl : k < 18 := by omega
    rw [unhide HST k hkl] at hRk
    have HRK := hide hRk
    have HW1 := hide (unhide HW _ hbw k)
    have hq := unhide HEQ (mfact (k : Int)).word
    generalize (mfact (k : Int)).word = x at *
    have hk2 : (k : Int) < 18 := by omega
    clear hRk HW HST HEQ HE
    by_cases hxy : x = y
    · rw [decide_eq_true hxy] at hq
      rw [if_pos hxy] at HRK
      have hR := unhide HRK
      subst hR
      clear hxy HRK
      go_wp2_with fail
      refine (unhide HW1).mono ?_
      rintro e w1 ⟨rfl, hb1⟩
      have HB := hide (hbw.trans (hb1.mono hbw.size))
      clear hb1 HW1 hbw
      go_wp2_with fail
      go_ret
      exact ⟨rfl, unhide HB⟩
    · rw [decide_eq_false hxy] at hq
      rw [if_neg hxy] at HRK
      clear hxy
      go_wp2_with fail
      refine (unhide HW1).mono ?_
      rintro e w1 ⟨rfl, hb1⟩
      have HB := hide (hbw.trans (hb1.mono hbw.size))
      clear hb1 HW1 hbw
      go_wp2_with fail
      go_roundw
      case rel => exact ⟨k + 1, by omega, by go_num, unhide HRK, unhide HB⟩
      case measure => simp [intOf]; omega
end Go.Proofs.YtfehpjmjchdkgaaDoor
