/- The reference's device: its value, its rows; the contracts of its Call, Read, last. -/
import Derived.Test.YtbggjkokfbcbcaaDClone
import Derived.Test.YtbggjkokfbcbcaaDFlush
import Derived.Test.YtbggjkokfbcbcaaCAppend
namespace Go.Proofs.Ytbggjkokfbcbcaa
open Go.RowKit
set_option linter.unusedVariables false

def rleft (d : Dev) : Int := if d.armed then (d.left : Int) else -1
def RV (lv cv : Value) (d : Dev) : Value := .agg #[lv, cv, .int .i64 (rleft d), .bool d.down, .int .i64 (d.calls : Int)]
structure RIs (base : Nat) (w : World) (lv cv : Value) (d : Dev) : Prop where
  sec : w.ownsRow base 9 1 lv d.L.length (secs d.L)
  loo : w.ownsRow base 68 2 cv d.W.length (wrs d.W)
theorem RIs.later {base : Nat} {w w' : World} {lv cv : Value} {d : Dev} (h : RIs base w lv cv d) (hb : Below w.heap.size w w') : RIs base w' lv cv d := ⟨ownsRow_later h.sec hb, ownsRow_later h.loo hb⟩

theorem tuple_ret {a b : Array Value} (h : a = b) : Ending.returned (.tuple a) = .returned (.tuple b) := by rw [h]

set_option maxHeartbeats 1600000 in
theorem rcall_any (a0 : Option Addr) (n0 c0 : Nat) (a1 : Option Addr) (n1 c1 : Nat) (d : Dev) (w : World) (hl : d.left < 9223372036854775808) (hc : d.calls < 4611686018427387904) :
    Calls Try.prog 33 #[RV (.slice a0 n0 c0) (.slice a1 n1 c1) d] w fun e w' => e = .returned (.tuple #[RV (.slice a0 n0 c0) (.slice a1 n1 c1) d.begin, .bool (!decide d.out)]) ∧ Below w.heap.size w w' := by
  obtain ⟨L, W, dn, ar, lf, cl⟩ := d
  dsimp only at hl hc
  have hw : IntKind.i64.wrap ((cl : Int) + 1) = ((cl + 1 : Nat) : Int) := by rw [IntKind.wrap_i64]; omega
  have hw6 : wrap64 ((cl : Int) + 1) = ((cl + 1 : Nat) : Int) := by unfold wrap64; omega
  have hfin : ∀ o1 o2, Below w.heap.size w ((w.alloc o1).alloc o2) := fun o1 o2 => ((Below.refl _ _).alloc (Nat.le_refl _) _).alloc (by simp) _
  have HF := hide hfin
  clear hfin
  unfold RV rleft Dev.begin Dev.out
  cases dn with
  | true =>
    simp only [true_or, if_true, decide_true, Bool.not_true]
    generalize (if ar = true then (lf : Int) else -1) = z
    go_enter Try.func33, Try.ntmps33
    go_wp2
    exact bodyPost_ret (v := .tuple #[.agg #[.slice a0 n0 c0, .slice a1 n1 c1, .int .i64 z, .bool true, .int .i64 (cl : Int)], .bool false]) (by simp [results, Try.results33, go_sem]) rfl ⟨rfl, unhide HF _ _⟩
  | false =>
    cases ar with
    | false =>
      simp only [Bool.false_eq_true, false_and, or_false, if_false, decide_false, Bool.not_false]
      go_enter Try.func33, Try.ntmps33
      go_wp2
      exact bodyPost_ret (v := .tuple #[.agg #[.slice a0 n0 c0, .slice a1 n1 c1, .int .i64 (-1), .bool false, .int .i64 ((cl + 1 : Nat) : Int)], .bool true]) (by simp [results, Try.results33, go_sem]) rfl ⟨rfl, unhide HF _ _⟩
    | true =>
      cases lf with
      | zero =>
        simp only [Bool.false_eq_true, false_or, true_and, if_true, decide_true, Bool.not_true]
        go_enter Try.func33, Try.ntmps33
        go_wp2
        exact bodyPost_ret (v := .tuple #[.agg #[.slice a0 n0 c0, .slice a1 n1 c1, .int .i64 0, .bool true, .int .i64 (cl : Int)], .bool false]) (by simp [results, Try.results33, go_sem]) rfl ⟨rfl, unhide HF _ _⟩
      | succ lf =>
        have e0 : (((lf + 1 : Nat) : Int) == 0) = false := by simp; omega
        have e1 : decide ((0 : Int) < ((lf + 1 : Nat) : Int)) = true := by simp
        have e2 : ((0 : Int) < ((lf + 1 : Nat) : Int)) := by omega
        have hw1 : IntKind.i64.wrap (((lf + 1 : Nat) : Int) - 1) = (lf : Int) := by rw [IntKind.wrap_i64]; omega
        have hw2 : wrap64 (((lf + 1 : Nat) : Int) - 1) = (lf : Int) := by unfold wrap64; omega
        simp only [Bool.false_eq_true, false_or, true_and, if_true, Nat.add_one_ne_zero, if_false, decide_false, Bool.not_false, Nat.add_sub_cancel]
        generalize hlf : ((lf + 1 : Nat) : Int) = z at *
        go_enter Try.func33, Try.ntmps33
        go_wp2
        exact bodyPost_ret (v := .tuple #[.agg #[.slice a0 n0 c0, .slice a1 n1 c1, .int .i64 (lf : Int), .bool false, .int .i64 ((cl + 1 : Nat) : Int)], .bool true]) (by simp [results, Try.results33, go_sem]) rfl ⟨rfl, unhide HF _ _⟩

/- A sector as it was written last, behind the first k writes. -/
theorem cur_step (d : Dev) (i k : Nat) (h : k < d.W.length) : ({ d with W := d.W.take (k + 1) } : Dev).cur i = if (d.W[k]'h).1 = i then (d.W[k]'h).2 else ({ d with W := d.W.take k } : Dev).cur i := by
  unfold Dev.cur
  simp only []
  rw [List.take_succ_eq_append_getElem h, List.reverse_append, List.reverse_singleton, List.singleton_append, List.find?_cons]
  by_cases e : (d.W[k]'h).1 = i
  · rw [if_pos e]; simp [e]
  · have : ((d.W[k]'h).1 == i) = false := by simpa using e
    rw [if_neg e, this]

set_option maxHeartbeats 1600000 in
theorem rread_any {base : Nat} {w : World} {lv cv : Value} {d : Dev} (h : RIs base w lv cv d) (i : Int) (hn : d.W.length ≤ 1099511627776) :
    Calls Try.prog 23 #[RV lv cv d, .int .i64 i] w fun e w' => e = .returned (.tuple #[.string (S (d.read i)), .int .i64 (d.readE i)]) ∧ Below w.heap.size w w' := by
  obtain ⟨a0, c0, rfl, ha0⟩ := ownsRow_slice h.sec
  obtain ⟨a1, c1, rfl, ha1⟩ := ownsRow_slice h.loo
  have HH := hide h
  clear h
  unfold RV Dev.read Dev.readE
  generalize rleft d = z
  by_cases hno : d.no i
  · rw [if_pos hno, if_pos hno]
    have hno2 : i < 0 ∨ (0 ≤ i ∧ (d.L.length : Int) ≤ i) := by unfold Dev.no at hno; omega
    clear hno
    rcases hno2 with h1 | ⟨h1, h2⟩
    all_goals
      go_enter Try.func23, Try.ntmps23
      go_wp2
      go_ret2
      exact ⟨rfl, (Below.refl _ _).alloc (Nat.le_refl _) _⟩
  · rw [if_neg hno, if_neg hno]
    obtain ⟨x, rfl⟩ : ∃ x : Nat, i = (x : Int) := ⟨i.toNat, by unfold Dev.no at hno; omega⟩
    have hx : x < d.L.length := by unfold Dev.no at hno; omega
    have h1 : (0 : Int) ≤ (x : Int) := by omega
    have h2 : (x : Int) < (d.L.length : Int) := by omega
    obtain ⟨g, rfl⟩ := ha0 (by omega)
    rw [Int.toNat_natCast]
    cases hdn : d.down with
    | true =>
      rw [if_pos rfl, if_pos rfl]
      go_enter Try.func23, Try.ntmps23
      go_wp2
      go_ret2
      exact ⟨rfl, (Below.refl _ _).alloc (Nat.le_refl _) _⟩
    | false =>
      rw [if_neg (by simp), if_neg (by simp)]
      have hsec : w.cell? ⟨g, x, none⟩ = some (.string (S (d.L[x]'hx))) := ownsRow_cell (unhide HH).sec rfl x _ (by simp [secs, List.getElem?_eq_getElem hx])
      have hglt := cell_lt hsec
      have hsA : ∀ o, (w.alloc o).cell? ⟨g, x, none⟩ = some (.string (S (d.L[x]'hx))) := fun o => (((Below.refl _ w).alloc (Nat.le_refl _) o).cell (p := ⟨g, x, none⟩) hglt).trans hsec
      have hcur0 : ({ d with W := d.W.take 0 } : Dev).cur x = d.L[x]'hx := by simp [Dev.cur, List.getD, List.getElem?_eq_getElem hx]
      have HC0 := hide hcur0
      clear hcur0
      generalize d.L[x]'hx = s0 at *
      have HDN := hide hdn
      have HNO := hide hno
      clear ha0 hdn hno
      obtain ⟨n, hnn⟩ : ∃ n, d.W.length = n := ⟨_, rfl⟩
      have HN := hide hnn
      rw [hnn] at ha1 hn HH ⊢
      clear hnn
      obtain ⟨C, hC⟩ : ∃ C, d.cur x = C := ⟨_, rfl⟩
      rw [hC]
      have HC := hide hC
      clear hC
      go_enter Try.func23, Try.ntmps23
      go_wp2_with fail
      clear hsA hsec
      go_loopw [6, 28] (fun s i wr => ∃ k : Nat, k ≤ n ∧ i = .int .i64 k ∧ s = .string (S (({ d with W := d.W.take k } : Dev).cur x)) ∧ Below w.heap.size w wr) (fun s i _ => n - (intOf i).toNat)
      case atStart =>
        exact ⟨0, Nat.zero_le _, rfl, by rw [unhide HC0], (Below.refl _ _).alloc (Nat.le_refl _) _⟩
      case round =>
        obtain ⟨k, hk, rfl, rfl, hb⟩ := hrel
        by_cases hlt : k < n
        · have hkW : k < d.W.length := by have := unhide HN; omega
          obtain ⟨g1, rfl⟩ := ha1 (by omega)
          have hst := cur_step d x k hkW
          have hg := wrs_get d.W k hkW
          have hx0 := ownsRow_cell (ownsRow_later (unhide HH).loo hb) (g := g1) (c := c1) (by rw [unhide HN]) _ _ hg.1
          have hx1 := ownsRow_cell (ownsRow_later (unhide HH).loo hb) (g := g1) (c := c1) (by rw [unhide HN]) _ _ hg.2
          clear hg
          generalize d.W[k]'hkW = y at *
          obtain ⟨y, t⟩ := y
          dsimp only at hx0 hx1 hst
          have hk1 : (0 : Int) ≤ (k : Int) := by omega
          have hk2 : (k : Int) < (n : Int) := by omega
          have hb2 : ∀ o, Below w.heap.size w (wr.alloc o) := fun o => hb.alloc hb.size o
          have HB2 := hide hb2
          clear hb hb2
          by_cases e : y = x
          · subst e
            rw [if_pos rfl] at hst
            have HST := hide hst
            clear hst
            generalize (({ d with W := d.W.take k } : Dev).cur y) = s1 at *
            go_wp2_with fail
            go_roundw
            case rel => exact ⟨k + 1, by omega, by go_num, by rw [unhide HST], unhide HB2 _⟩
            case measure => simp [intOf]; omega
          · rw [if_neg e] at hst
            have e2 : ((y : Int) == (x : Int)) = false := by simp; omega
            have HST := hide hst
            clear hst
            generalize hs1 : (({ d with W := d.W.take k } : Dev).cur x) = s1 at *
            clear hs1
            go_wp2_with fail
            go_roundw
            case rel => exact ⟨k + 1, by omega, by go_num, by rw [unhide HST], unhide HB2 _⟩
            case measure => simp [intOf]; omega
        · have : k = n := by omega
          subst this
          have e : d.W.take k = d.W := List.take_of_length_le (by have := unhide HN; omega)
          rw [e]
          have HB := hide hb
          clear hb
          have e3 : ({ d with W := d.W } : Dev) = d := rfl
          rw [e3, unhide HC]
          clear e e3
          go_wp2_with fail
          go_ret2
          exact ⟨rfl, unhide HB⟩
end Go.Proofs.Ytbggjkokfbcbcaa
