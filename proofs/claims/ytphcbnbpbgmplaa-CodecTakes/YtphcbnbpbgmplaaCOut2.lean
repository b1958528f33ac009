/- The contracts of an Out's U and Text; that codec answers what the document's examples say. -/
import Derived.Test.YtphcbnbpbgmplaaCKey
import Derived.Test.YtphcbnbpbgmplaaCIn2
namespace Go.Proofs.Ytphcbnbpbgmplaa
open Go.RowKit
set_option linter.unusedVariables false

def encs (l : List Nat) : List UInt8 := l.flatMap Codec.enc
theorem encs_snoc (l : List Nat) (k : Nat) (h : k < l.length) : encs (l.take (k + 1)) = encs (l.take k) ++ Codec.enc l[k] := by
  rw [List.take_succ_eq_append_getElem h]; unfold encs; rw [List.flatMap_append]; congr 1; simp
theorem encs_length (l : List Nat) (hl : ∀ i (h : i < l.length), l[i] < 18446744073709551616) (k : Nat) (hk : k ≤ l.length) : (encs (l.take k)).length ≤ 9 * k := by
  induction k with
  | zero => simp [encs]
  | succ k ih =>
    rw [encs_snoc l k (by omega), List.length_append, Codec.enc_length]
    have h1 := ih (by omega)
    have h2 := Codec.blen_le l[k] (hl k (by omega))
    omega

/- Numbers in cells of a block that is foreign to the Out. -/
def Nums (w : World) (b : Nat) (a : Option Addr) (l : List Nat) (f : Nat → Value) : Prop :=
  ∀ i (hi : i < l.length), ∃ sb off, a = some ⟨sb, off, none⟩ ∧ sb < w.heap.size ∧ Foreign w b sb ∧ w.cell? ⟨sb, off + i, none⟩ = some (f l[i])

set_option maxHeartbeats 400000 in
theorem outU_any (b : Nat) (l : List UInt8) (ns : List Nat) (a : Option Addr) (n cap : Nat) (w : World) (h : OutAt w b l) (hn : n = ns.length) (hn64 : ns.length ≤ 64) (hl : l.length ≤ 549755813888)
    (hns : ∀ i (h : i < ns.length), ns[i] < 18446744073709551616) (hnum : Nums w b a ns fun x => .int .u64 (x : Int)) :
    Calls Try.prog 27 #[.pointer (some ⟨b, 0, none⟩), .slice a n cap] w fun e w' => e = .returned (.pointer (some ⟨b, 0, none⟩)) ∧ OutAt w' b (l ++ encs ns) ∧ Step b w w' := by
  have HNS := hide hns
  have HNUM := hide hnum
  have HN := hide hn
  have HH := hide h
  have hnn : n ≤ 64 := by omega
  clear hns hnum hn h
  go_enter Try.func27, Try.ntmps27
  go_wp2_with fail
  go_loopw [9] (fun i wr => ∃ k : Nat, k ≤ n ∧ i = .int .i64 k ∧ OutAt wr b (l ++ encs (ns.take k)) ∧ Step b w wr) (fun i _ => n - (intOf i).toNat)
  case atStart =>
    refine ⟨0, Nat.zero_le _, rfl, ?_, Step.refl _ _⟩
    have e : l ++ encs (ns.take 0) = l := by simp [encs]
    rw [e]
    exact unhide HH
  case round =>
    obtain ⟨k, hk, rfl, ho, hst⟩ := hrel
    have hel := encs_length ns (unhide HNS) k (by have := unhide HN; omega)
    by_cases hlt : k < n
    · have hkl : k < ns.length := by have := unhide HN; omega
      obtain ⟨sb, off, ha, hblt, hfor, hcell⟩ := unhide HNUM k hkl
      subst ha
      rw [← World.cell?_of_block (w := w) (a := ⟨sb, off + k, none⟩) (hst.keep sb hblt hfor).1] at hcell
      have HES := hide (encs_snoc ns k hkl)
      have HNB := hide (number_any b ns[k] (l ++ encs (ns.take k)) wr ho (unhide HNS k hkl) (by rw [List.length_append]; omega))
      clear ho
      generalize ns[k] = x at *
      go_wp2_with fail
      refine (unhide HNB).mono ?_
      rintro e w2 ⟨rfl, ho2, hst2⟩
      rw [List.append_assoc, ← unhide HES] at ho2
      have HO := hide ho2
      clear ho2 HNB
      go_wp2
      go_roundw
      case rel => exact ⟨k + 1, by omega, by go_num, unhide HO, hst.trans hst2⟩
      case measure => simp [intOf]; omega
    · have hkn : k = ns.length := by have := unhide HN; omega
      have e : ns.take k = ns := by rw [hkn]; exact List.take_length
      rw [e] at ho
      clear e
      go_wp2
      go_ret
      exact ⟨rfl, ho, hst⟩

set_option maxHeartbeats 400000 in
theorem text_any (b : Nat) (l : List UInt8) (w : World) (h : OutAt w b l) :
    Calls Try.prog 28 #[.pointer (some ⟨b, 0, none⟩)] w fun e w' => e = .returned (.string (S l)) ∧ w' = w := by
  obtain ⟨ao, c, hcell, hown⟩ := h.cell
  have kb := bytes_text hown
  clear h hown
  go_enter Try.func28, Try.ntmps28
  go_wp2
  go_ret
  exact ⟨rfl, rfl⟩

theorem enc300 : Codec.enc 300 = [2, 1, 44] := by decide +kernel
theorem keyA : Codec.key [[97], []] = [97, 0, 1, 0, 1] := by decide +kernel
theorem minusOne : Codec.takeI ([1, 1], 0) = (-1, ([], 0)) := by decide +kernel

theorem foreign_new (w : World) (o : Obj) : Foreign ((w.alloc (.cells #[.slice none 0 0] 61)).alloc o) w.heap.size (w.heap.size + 1) := by
  refine ⟨by omega, fun v hv e => ?_⟩
  have : ((w.alloc (.cells #[.slice none 0 0] 61)).alloc o).cell? ⟨w.heap.size, 0, none⟩ = some (.slice none 0 0) := by
    rw [World.cell?_of_block (w := w.alloc (.cells #[.slice none 0 0] 61)) (a := ⟨w.heap.size, 0, none⟩) (Below.heap_alloc _ o _ (by simp))]
    simp
  rw [this] at hv
  injection hv with hv
  subst hv
  simp [Value.ownBlock] at e

theorem outU_300 (w : World) :
    Calls Try.prog 27 #[.pointer (some ⟨w.heap.size, 0, none⟩), .slice (some ⟨w.heap.size + 1, 0, none⟩) 1 1]
      ((w.alloc (.cells #[.slice none 0 0] 61)).alloc (.cells #[.int .u64 300] 64)) fun e w' => e = .returned (.pointer (some ⟨w.heap.size, 0, none⟩)) ∧ OutAt w' w.heap.size [2, 1, 44] ∧ Below w.heap.size w w' := by
  have ho := (OutAt.new w).later (w' := (w.alloc (.cells #[.slice none 0 0] 61)).alloc (.cells #[.int .u64 300] 64)) ((Below.refl _ _).alloc (Nat.le_refl _) _)
  have h := outU_any w.heap.size [] [300] (some ⟨w.heap.size + 1, 0, none⟩) 1 1 _ ho.1 rfl (by decide) (by simp) (by intro i hi; simp at hi; subst hi; simp)
    (by
      intro i hi
      simp at hi
      subst hi
      refine ⟨_, _, rfl, by simp, foreign_new w _, ?_⟩
      simp)
  refine h.mono ?_
  rintro e w' ⟨rfl, h1, h2⟩
  have e : [] ++ encs [300] = [2, 1, 44] := by rw [← enc300]; simp [encs]
  rw [e] at h1
  refine ⟨rfl, h1, ?_⟩
  exact ((((Below.refl _ _).alloc (Nat.le_refl _) _).alloc (by simp) _)).trans (h2.below ho.1 (Nat.le_refl _))

theorem key_two (w : World) :
    Calls Try.prog 30 #[.slice (some ⟨w.heap.size, 0, none⟩) 2 2] (w.alloc (.cells #[.string ⟨#[97]⟩, .string ⟨#[]⟩] 9)) fun e w' => e = .returned (.string ⟨#[97, 0, 1, 0, 1]⟩) ∧ Below w.heap.size w w' := by
  have h := key_any [[97], []] (some ⟨w.heap.size, 0, none⟩) 2 2 (w.alloc (.cells #[.string ⟨#[97]⟩, .string ⟨#[]⟩] 9)) rfl (by decide)
    (by intro i hi; simp at hi; obtain rfl | rfl : i = 0 ∨ i = 1 := by omega
        all_goals simp)
    (by intro i hi; simp at hi; refine ⟨_, _, rfl, by simp, ?_⟩; obtain rfl | rfl : i = 0 ∨ i = 1 := by omega
        all_goals (simp; rfl))
  rw [keyA] at h
  refine h.mono ?_
  rintro e w' ⟨rfl, hb⟩
  exact ⟨rfl, ((Below.refl _ _).alloc (Nat.le_refl _) _).trans (hb.mono (by simp))⟩

theorem read_none (w : World) :
    Calls Try.prog 19 #[.string ⟨#[]⟩] w fun e w' => e = .returned (.pointer (some ⟨w.heap.size, 0, none⟩)) ∧ Below w.heap.size w w' := by
  refine (read_any [] w (by simp)).mono ?_
  rintro e w' ⟨rfl, _, hb, _⟩
  exact ⟨rfl, hb⟩
theorem read_one (w : World) :
    Calls Try.prog 19 #[.string ⟨#[1, 1]⟩] w fun e w' => e = .returned (.pointer (some ⟨w.heap.size, 0, none⟩)) ∧ InAt w' w.heap.size ([1, 1], 0) ∧ Below w.heap.size w w' ∧ w'.heap.size = w.heap.size + 1 :=
  read_any [1, 1] w (by simp)
theorem i_minus (b : Nat) (w : World) (h : InAt w b ([1, 1], 0)) :
    Calls Try.prog 29 #[.pointer (some ⟨b, 0, none⟩)] w fun e w' => e = .returned (.int .i64 (-1)) ∧ But b w.heap.size w w' := by
  have h1 := i_any b _ w h
  rw [minusOne] at h1
  refine h1.mono ?_
  rintro e w' ⟨rfl, _, hb⟩
  exact ⟨rfl, hb⟩

set_option maxHeartbeats 400000 in
theorem awake_any (w : World) :
    Calls Try.prog 20 #[] w fun e w' => e = .returned (.bool true) ∧ Below w.heap.size w w' := by
  have H1 := hide (outU_300 w)
  have hS := S_list [2, 1, 44]
  have HR0 := hide read_none
  have HR1 := hide read_one
  have HI := hide i_minus
  have HK := hide key_two
  go_enter Try.func20, Try.ntmps20
  go_wp2_with fail
  refine (unhide H1).mono ?_
  rintro e w1 ⟨rfl, ho1, hb1⟩
  have H2 := hide (text_any w.heap.size _ w1 ho1)
  clear ho1 H1
  go_wp2_with fail
  refine (unhide H2).mono ?_
  rintro e w2 ⟨rfl, rfl⟩
  clear H2
  go_wp2_with fail
  refine (unhide HR0 _).mono ?_
  rintro e w3 ⟨rfl, hb3⟩
  go_wp2_with fail
  refine (unhide HR1 _).mono ?_
  rintro e w4 ⟨rfl, hin4, hb4, hz4⟩
  have HI4 := hide (unhide HI _ w4 hin4)
  clear HI hin4
  go_wp2_with fail
  refine (unhide HI4).mono ?_
  rintro e w5 ⟨rfl, hbut5⟩
  go_wp2_with fail
  refine (unhide HK _).mono ?_
  rintro e w6 ⟨rfl, hb6⟩
  have fin : Below w.heap.size w w6 := by
    have z1 := hb1.size
    have z3 := hb3.size
    have z4 := hb4.size
    have z5 := hbut5.size
    refine (((hb1.trans (hb3.mono ?_)).trans (hb4.mono ?_)).trans (hbut5.below ?_ ?_)).trans (hb6.mono ?_)
    all_goals omega
  clear hb1 hb3 hb4 hbut5 hb6 hz4 HI4
  go_wp2
  go_ret
  exact ⟨rfl, fin⟩
end Go.Proofs.Ytphcbnbpbgmplaa
