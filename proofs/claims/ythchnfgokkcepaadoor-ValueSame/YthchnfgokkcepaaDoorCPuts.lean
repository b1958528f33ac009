/- The contracts of an Out's whole numbers, numbers from 0 on and texts, and of the reference's. -/
import Derived.Test.YthchnfgokkcepaaDoorCOne
import Derived.Test.YthchnfgokkcepaaDoorCPutsMath
import Derived.Test.YthchnfgokkcepaaDoorCAppend
namespace Go.Proofs.YthchnfgokkcepaaDoor
open Go.RowKit
set_option linter.unusedVariables false
set_option maxRecDepth 100000

theorem ones64 (n : Nat) (h : n < 2 ^ 64) : 18446744073709551615 ^^^ n = 18446744073709551615 - n := by
  apply Nat.eq_of_testBit_eq
  intro i
  have e : 18446744073709551615 - n = 2 ^ 64 - (n + 1) := by omega
  rw [e, Nat.testBit_two_pow_sub_succ h, Nat.testBit_xor, show 18446744073709551615 = 2 ^ 64 - 1 from by decide, Nat.testBit_two_pow_sub_one]
  by_cases hi : i < 64
  · simp [hi]
  · have : n.testBit i = false := Nat.testBit_lt_two_pow (Nat.lt_of_lt_of_le h (Nat.pow_le_pow_right (by omega) (by omega)))
    simp [hi, this]

theorem not_u64 (n : Nat) (h : n < 18446744073709551616) : bits .xor .u64 IntKind.u64.max (n : Int) = ((18446744073709551615 - n : Nat) : Int) := by
  have e := u64_xor_nat 18446744073709551615 n (by omega) h
  rw [ones64 n h] at e
  exact e

theorem fold_neg (k : Int) (h1 : -9223372036854775808 ≤ k) (h : k < 0) : bits .xor .u64 IntKind.u64.max (IntKind.u64.wrap (IntKind.u64.wrap k * 2)) = ((Codec.fold k : Nat) : Int) := by
  obtain ⟨m, hm⟩ := Int.eq_ofNat_of_zero_le (show 0 ≤ 2 * k + 18446744073709551616 by omega)
  have e : IntKind.u64.wrap (IntKind.u64.wrap k * 2) = (m : Int) := by
    rw [IntKind.wrap_u64, IntKind.wrap_u64]; omega
  rw [e, not_u64 m (by omega)]
  unfold Codec.fold
  rw [if_neg (by omega)]
  omega

set_option maxHeartbeats 400000 in
theorem fold_any (k : Int) (w : World) (h1 : -9223372036854775808 ≤ k) (h2 : k ≤ 9223372036854775807) :
    Calls Tryd.prog 63 #[.int .i64 k] w fun e w' => e = .returned (.int .u64 (Codec.fold k : Nat)) ∧ w' = w := by
  by_cases h : k < 0
  · have HF := hide (fold_neg k h1 h)
    go_enter Tryd.func63, Tryd.ntmps63
    go_wp2
    go_ret
    exact ⟨ret_int (unhide HF), rfl⟩
  · go_enter Tryd.func63, Tryd.ntmps63
    go_wp2
    go_ret
    refine ⟨ret_int ?_, rfl⟩
    unfold Codec.fold
    rw [if_pos (by omega)]
    omega

set_option maxHeartbeats 400000 in
theorem refI_any (k : Int) (w : World) (h1 : -9223372036854775808 ≤ k) (h2 : k ≤ 9223372036854775807) :
    Calls Tryd.prog 46 #[.int .i64 k] w fun e w' => e = .returned (.string (S (Codec.enc (Codec.fold k)))) ∧ Below w.heap.size w w' := by
  have HU := hide (fun wx => refU_any (Codec.fold k) wx (Codec.fold_lt k h1 h2))
  by_cases h : 0 ≤ k
  · have e : ((Codec.fold k : Nat) : Int) = 2 * k := by unfold Codec.fold; rw [if_pos h]; omega
    rw [e] at HU
    clear e
    go_enter Tryd.func46, Tryd.ntmps46
    go_wp2_with fail
    refine (unhide HU _).mono ?_
    rintro e w1 ⟨rfl, hb⟩
    go_wp2
    go_ret
    exact ⟨rfl, hb⟩
  · have e : ((Codec.fold k : Nat) : Int) = 2 * -(k + 1) + 1 := by unfold Codec.fold; rw [if_neg h]; omega
    rw [e] at HU
    clear e
    go_enter Tryd.func46, Tryd.ntmps46
    go_wp2_with fail
    refine (unhide HU _).mono ?_
    rintro e w1 ⟨rfl, hb⟩
    go_wp2
    go_ret
    exact ⟨rfl, hb⟩

set_option maxHeartbeats 400000 in
theorem refN_any (k : Int) (w : World) (h1 : -9223372036854775808 ≤ k) (h2 : k ≤ 9223372036854775807) :
    Calls Tryd.prog 45 #[.int .i64 k] w fun e w' => e = .returned (.string (S (Codec.enc (max k 0).toNat))) ∧ Below w.heap.size w w' := by
  have HU := hide (fun wx => refU_any (max k 0).toNat wx (by omega))
  have e : (((max k 0).toNat : Nat) : Int) = max k 0 := by omega
  rw [e] at HU
  clear e
  go_enter Tryd.func45, Tryd.ntmps45
  go_wp2_with fail
  refine (unhide HU _).mono ?_
  rintro e w1 ⟨rfl, hb⟩
  go_wp2
  go_ret
  exact ⟨rfl, hb⟩

set_option maxHeartbeats 400000 in
theorem refS_any (l : List UInt8) (w : World) (hl : l.length ≤ 1099511627776) :
    Calls Tryd.prog 47 #[.string (S l)] w fun e w' => e = .returned (.string (S (Codec.encS l))) ∧ Below w.heap.size w w' := by
  have HU := hide (fun wx => refU_any l.length wx (by omega))
  have hes := Codec.enc_short l.length (by omega)
  have hsz : (S l).size = l.length := S_size l
  have hsz2 : (S (Codec.enc l.length)).size = (Codec.enc l.length).length := S_size _
  have hap := S_append (Codec.enc l.length) l
  have hE : Codec.encS l = Codec.enc l.length ++ l := rfl
  rw [hE]
  clear hE
  generalize Codec.enc l.length = en at *
  go_enter Tryd.func47, Tryd.ntmps47
  go_wp2_with fail
  refine (unhide HU _).mono ?_
  rintro e w1 ⟨rfl, hb⟩
  go_wp2
  go_ret
  exact ⟨rfl, hb⟩

/- Out.I, Out.N: as Out.U, each number made ahead. -/
def encI (l : List Int) : List UInt8 := l.flatMap fun k => Codec.enc (Codec.fold k)
def encN (l : List Int) : List UInt8 := l.flatMap fun k => Codec.enc (max k 0).toNat
theorem flat_snoc (g : Int → List UInt8) (l : List Int) (k : Nat) (h : k < l.length) : (l.take (k + 1)).flatMap g = (l.take k).flatMap g ++ g l[k] := by
  rw [List.take_succ_eq_append_getElem h, List.flatMap_append]; congr 1; simp
theorem flat_short (g : Int → List UInt8) (l : List Int) (hg : ∀ i (h : i < l.length), (g l[i]).length ≤ 9) (k : Nat) (hk : k ≤ l.length) : ((l.take k).flatMap g).length ≤ 9 * k := by
  induction k with
  | zero => simp
  | succ k ih =>
    rw [flat_snoc g l k (by omega), List.length_append]
    have h1 := ih (by omega)
    have h2 := hg k (by omega)
    omega
def Ints (w : World) (b : Nat) (a : Option Addr) (l : List Int) : Prop :=
  ∀ i (hi : i < l.length), ∃ sb off, a = some ⟨sb, off, none⟩ ∧ sb < w.heap.size ∧ Foreign w b sb ∧ w.cell? ⟨sb, off + i, none⟩ = some (.int .i64 l[i])

set_option maxHeartbeats 400000 in
theorem outI_any (b : Nat) (l : List UInt8) (ns : List Int) (a : Option Addr) (n cap : Nat) (w : World) (h : OutAt w b l) (hn : n = ns.length) (hn64 : ns.length ≤ 64) (hl : l.length ≤ 549755813888)
    (hns : ∀ i (h : i < ns.length), -9223372036854775808 ≤ ns[i] ∧ ns[i] ≤ 9223372036854775807) (hnum : Ints w b a ns) :
    Calls Tryd.prog 42 #[.pointer (some ⟨b, 0, none⟩), .slice a n cap] w fun e w' => e = .returned (.pointer (some ⟨b, 0, none⟩)) ∧ OutAt w' b (l ++ encI ns) ∧ Step b w w' := by
  have HNS := hide hns
  have HNUM := hide hnum
  have HN := hide hn
  have HH := hide h
  have hnn : n ≤ 64 := by omega
  clear hns hnum hn h
  go_enter Tryd.func42, Tryd.ntmps42
  go_wp2_with fail
  go_loopw [9] (fun i wr => ∃ k : Nat, k ≤ n ∧ i = .int .i64 k ∧ OutAt wr b (l ++ encI (ns.take k)) ∧ Step b w wr) (fun i _ => n - (intOf i).toNat)
  case atStart =>
    refine ⟨0, Nat.zero_le _, rfl, ?_, Step.refl _ _⟩
    have e : l ++ encI (ns.take 0) = l := by simp [encI]
    rw [e]
    exact unhide HH
  case round =>
    obtain ⟨k, hk, rfl, ho, hst⟩ := hrel
    have hel : (encI (ns.take k)).length ≤ 9 * k := flat_short _ ns (fun i hi => Codec.enc_short _ (Codec.fold_lt _ (unhide HNS i hi).1 (unhide HNS i hi).2)) k (by have := unhide HN; omega)
    by_cases hlt : k < n
    · have hkl : k < ns.length := by have := unhide HN; omega
      obtain ⟨sb, off, ha, hblt, hfor, hcell⟩ := unhide HNUM k hkl
      subst ha
      rw [← World.cell?_of_block (w := w) (a := ⟨sb, off + k, none⟩) (hst.keep sb hblt hfor).1] at hcell
      have HES : Hid (encI (ns.take (k + 1)) = encI (ns.take k) ++ Codec.enc (Codec.fold ns[k])) := flat_snoc _ ns k hkl
      obtain ⟨hr1, hr2⟩ := unhide HNS k hkl
      have HFO := hide (fun wx => fold_any ns[k] wx hr1 hr2)
      have HNB := hide (number_any b (Codec.fold ns[k]) (l ++ encI (ns.take k)) wr ho (Codec.fold_lt _ hr1 hr2) (by rw [List.length_append]; omega))
      clear ho hr1 hr2
      generalize ns[k] = x at *
      generalize Codec.fold x = y at *
      go_wp2_with fail
      refine (unhide HFO _).mono ?_
      rintro e w1 ⟨rfl, rfl⟩
      go_wp2_with fail
      refine (unhide HNB).mono ?_
      rintro e w2 ⟨rfl, ho2, hst2⟩
      rw [List.append_assoc, ← unhide HES] at ho2
      have HO := hide ho2
      clear ho2 HNB
      go_wp2
      go_roundw
      case rel => exact ⟨k + 1, by omega, by go_num, unhide HO, hst.trans hst2⟩
      case measure => simp [intOf]; omega
    · have hkn : k = ns.length := by have := unhide HN; omega
      have e : ns.take k = ns := by rw [hkn]; exact List.take_length
      rw [e] at ho
      clear e
      go_wp2
      go_ret
      exact ⟨rfl, ho, hst⟩

set_option maxHeartbeats 400000 in
theorem outN_any (b : Nat) (l : List UInt8) (ns : List Int) (a : Option Addr) (n cap : Nat) (w : World) (h : OutAt w b l) (hn : n = ns.length) (hn64 : ns.length ≤ 64) (hl : l.length ≤ 549755813888)
    (hns : ∀ i (h : i < ns.length), -9223372036854775808 ≤ ns[i] ∧ ns[i] ≤ 9223372036854775807) (hnum : Ints w b a ns) :
    Calls Tryd.prog 41 #[.pointer (some ⟨b, 0, none⟩), .slice a n cap] w fun e w' => e = .returned (.pointer (some ⟨b, 0, none⟩)) ∧ OutAt w' b (l ++ encN ns) ∧ Step b w w' := by
  have HNS := hide hns
  have HNUM := hide hnum
  have HN := hide hn
  have HH := hide h
  have hnn : n ≤ 64 := by omega
  clear hns hnum hn h
  go_enter Tryd.func41, Tryd.ntmps41
  go_wp2_with fail
  go_loopw [9] (fun i wr => ∃ k : Nat, k ≤ n ∧ i = .int .i64 k ∧ OutAt wr b (l ++ encN (ns.take k)) ∧ Step b w wr) (fun i _ => n - (intOf i).toNat)
  case atStart =>
    refine ⟨0, Nat.zero_le _, rfl, ?_, Step.refl _ _⟩
    have e : l ++ encN (ns.take 0) = l := by simp [encN]
    rw [e]
    exact unhide HH
  case round =>
    obtain ⟨k, hk, rfl, ho, hst⟩ := hrel
    have hel : (encN (ns.take k)).length ≤ 9 * k := flat_short _ ns (fun i hi => Codec.enc_short _ (by have := unhide HNS i hi; omega)) k (by have := unhide HN; omega)
    by_cases hlt : k < n
    · have hkl : k < ns.length := by have := unhide HN; omega
      obtain ⟨sb, off, ha, hblt, hfor, hcell⟩ := unhide HNUM k hkl
      subst ha
      rw [← World.cell?_of_block (w := w) (a := ⟨sb, off + k, none⟩) (hst.keep sb hblt hfor).1] at hcell
      have HES : Hid (encN (ns.take (k + 1)) = encN (ns.take k) ++ Codec.enc (max ns[k] 0).toNat) := flat_snoc _ ns k hkl
      obtain ⟨hr1, hr2⟩ := unhide HNS k hkl
      have HFO := hide (fun wx => nought_any ns[k] wx hr1 hr2)
      have HNB := hide (number_any b (max ns[k] 0).toNat (l ++ encN (ns.take k)) wr ho (by omega) (by rw [List.length_append]; omega))
      clear ho hr1 hr2
      generalize (max ns[k] 0).toNat = y at *
      generalize ns[k] = x at *
      go_wp2_with fail
      refine (unhide HFO _).mono ?_
      rintro e w1 ⟨rfl, rfl⟩
      go_wp2_with fail
      refine (unhide HNB).mono ?_
      rintro e w2 ⟨rfl, ho2, hst2⟩
      rw [List.append_assoc, ← unhide HES] at ho2
      have HO := hide ho2
      clear ho2 HNB
      go_wp2
      go_roundw
      case rel => exact ⟨k + 1, by omega, by go_num, unhide HO, hst.trans hst2⟩
      case measure => simp [intOf]; omega
    · have hkn : k = ns.length := by have := unhide HN; omega
      have e : ns.take k = ns := by rw [hkn]; exact List.take_length
      rw [e] at ho
      clear e
      go_wp2
      go_ret
      exact ⟨rfl, ho, hst⟩

def encT (l : List (List UInt8)) : List UInt8 := l.flatMap Codec.encS
theorem encT_snoc (l : List (List UInt8)) (k : Nat) (h : k < l.length) : encT (l.take (k + 1)) = encT (l.take k) ++ Codec.encS l[k] := by
  rw [List.take_succ_eq_append_getElem h]; unfold encT; rw [List.flatMap_append]; congr 1; simp
theorem encT_short (l : List (List UInt8)) (hl : ∀ i (h : i < l.length), l[i].length ≤ 1048576) (k : Nat) (hk : k ≤ l.length) : (encT (l.take k)).length ≤ 1048585 * k := by
  induction k with
  | zero => simp [encT]
  | succ k ih =>
    rw [encT_snoc l k (by omega), List.length_append]
    have h1 := ih (by omega)
    have h2 := hl k (by omega)
    have h3 : (Codec.encS l[k]).length = (Codec.enc l[k].length).length + l[k].length := by simp [Codec.encS]
    have h4 := Codec.enc_short l[k].length (by omega)
    omega
def Strs (w : World) (b : Nat) (a : Option Addr) (l : List (List UInt8)) : Prop :=
  ∀ i (hi : i < l.length), ∃ sb off, a = some ⟨sb, off, none⟩ ∧ sb < w.heap.size ∧ Foreign w b sb ∧ w.cell? ⟨sb, off + i, none⟩ = some (.string (S l[i]))

/- One number from 0 on, in a block of its own that was made just ahead. -/
theorem outN_one (b : Nat) (l : List UInt8) (x : Nat) (w : World) (h : OutAt w b l) (hl : l.length ≤ 549755813888) (hx : x ≤ 9223372036854775807) :
    Calls Tryd.prog 41 #[.pointer (some ⟨b, 0, none⟩), .slice (some ⟨w.heap.size, 0, none⟩) 1 1] (w.alloc (.cells #[.int .i64 (x : Int)] 3)) fun e w' =>
      e = .returned (.pointer (some ⟨b, 0, none⟩)) ∧ OutAt w' b (l ++ Codec.enc x) ∧ Step b w w' := by
  obtain ⟨ho, hst⟩ := h.later (w' := w.alloc (.cells #[.int .i64 (x : Int)] 3)) ((Below.refl _ _).alloc (Nat.le_refl _) _)
  have hfor : Foreign (w.alloc (.cells #[.int .i64 (x : Int)] 3)) b w.heap.size := by
    obtain ⟨ao, c, hc, hown⟩ := h.cell
    refine ⟨by have := h.lt; omega, fun v hv e => ?_⟩
    rw [World.cell?_of_block (w := w) (a := ⟨b, 0, none⟩) (Below.heap_alloc _ _ _ h.lt), hc] at hv
    injection hv with hv
    subst hv
    have := (hown.lt _ e).2
    omega
  have hN := outN_any b l [(x : Int)] (some ⟨w.heap.size, 0, none⟩) 1 1 _ ho rfl (by simp) hl (by intro i hi; simp at hi; subst hi; simp; omega)
    (by
      intro i hi
      simp at hi
      subst hi
      refine ⟨_, _, rfl, by simp, hfor, ?_⟩
      simp)
  refine hN.mono ?_
  rintro e w' ⟨rfl, h1, h2⟩
  have e : encN [(x : Int)] = Codec.enc x := by simp [encN]
  rw [e] at h1
  exact ⟨rfl, h1, hst.trans h2⟩

set_option maxHeartbeats 400000 in
theorem outS_any (b : Nat) (l : List UInt8) (ns : List (List UInt8)) (a : Option Addr) (n cap : Nat) (w : World) (h : OutAt w b l) (hn : n = ns.length) (hn64 : ns.length ≤ 64) (hl : l.length ≤ 274877906944)
    (hns : ∀ i (h : i < ns.length), ns[i].length ≤ 1048576) (hnum : Strs w b a ns) :
    Calls Tryd.prog 43 #[.pointer (some ⟨b, 0, none⟩), .slice a n cap] w fun e w' => e = .returned (.pointer (some ⟨b, 0, none⟩)) ∧ OutAt w' b (l ++ encT ns) ∧ Step b w w' := by
  obtain ⟨i0, hi, hz0, hz1, hz2⟩ := info_parts info_byte
  have HNS := hide hns
  have HNUM := hide hnum
  have HN := hide hn
  have HH := hide h
  have hnn : n ≤ 64 := by omega
  clear hns hnum hn h
  go_enter Tryd.func43, Tryd.ntmps43
  go_wp2_with fail
  go_loopw [9] (fun i wr => ∃ k : Nat, k ≤ n ∧ i = .int .i64 k ∧ OutAt wr b (l ++ encT (ns.take k)) ∧ Step b w wr) (fun i _ => n - (intOf i).toNat)
  case atStart =>
    refine ⟨0, Nat.zero_le _, rfl, ?_, Step.refl _ _⟩
    have e : l ++ encT (ns.take 0) = l := by simp [encT]
    rw [e]
    exact unhide HH
  case round =>
    obtain ⟨k, hk, rfl, ho, hst⟩ := hrel
    have hel := encT_short ns (unhide HNS) k (by have := unhide HN; omega)
    by_cases hlt : k < n
    · have hkl : k < ns.length := by have := unhide HN; omega
      obtain ⟨sb, off, ha, hblt, hfor, hcell⟩ := unhide HNUM k hkl
      subst ha
      rw [← World.cell?_of_block (w := w) (a := ⟨sb, off + k, none⟩) (hst.keep sb hblt hfor).1] at hcell
      have hxl := unhide HNS k hkl
      have HES := hide (encT_snoc ns k hkl)
      have hll : (l ++ encT (ns.take k)).length ≤ 274877906944 + 67109440 := by rw [List.length_append]; omega
      have hsz : (S ns[k]).size = ns[k].length := S_size _
      have HN1 := hide (outN_one b (l ++ encT (ns.take k)) ns[k].length wr ho (by omega) (by omega))
      clear ho
      generalize ns[k] = x at *
      go_wp2_with fail
      refine (unhide HN1).mono ?_
      rintro e w2 ⟨rfl, ho2, hst2⟩
      have HO2 := hide ho2
      obtain ⟨ao, c, hcell2, hown2⟩ := ho2.cell
      have hfr2 := ho2.frozen
      have hes := Codec.enc_short x.length (by omega)
      have hll2 : (l ++ encT (ns.take k) ++ Codec.enc x.length).length ≤ 274877906944 + 67109449 := by rw [List.length_append]; omega
      have hne : (l ++ encT (ns.take k) ++ Codec.enc x.length).length ≠ 0 := by rw [List.length_append, Codec.enc_length]; omega
      have hb2 := ho2.lt
      have HOWN2 := hide hown2
      have HC2 := hide hcell2
      have hsrc := Src.ofString (P := Tryd.prog) w2 under_string (S x)
      rw [hsz] at hsrc
      have HSRC := hide hsrc
      have hl4 : l ++ encT (ns.take (k + 1)) = l ++ encT (ns.take k) ++ Codec.enc x.length ++ x := by
        rw [unhide HES]; simp [Codec.encS]
      have HL4 := hide hl4
      clear ho2 hown2 hsrc hl4 hes
      generalize l ++ encT (ns.take k) ++ Codec.enc x.length = l2 at *
      go_wp2_with (first | (at_builtin; refine wpList_append_src rfl _ _ 70 9 rfl (b + 1) 5 i0 (.int .u8 0) 1 1 under_bytes hi hz0 hz1 hz2 rfl (by decide) _ _ _ rfl (unhide HOWN2) (by intro e; injection e with e1 e2 e3; exact hne e2) _ _ _ rfl (unhide HSRC) ?c3 ?c4 ?c5 ?_) | fail)
      case c3 => unfold maxLen; omega
      case c4 => omega
      case c5 => omega
      intro v' w3 hown' hgrow hfresh _
      have hgr := (unhide HO2).grow0 (Below.refl _ _) (unhide HOWN2) hgrow
      have HPUT := hide ((unhide HO2).put0 (Below.refl _ _) (unhide HC2) (unhide HOWN2) hgrow (ys := x) hown' hfresh)
      obtain ⟨hf3, hc3, _⟩ := hgr
      rw [unhide HC2] at hc3
      obtain ⟨a3, c3, rfl, _⟩ := ownsRow_slice hown'
      clear hown' hgrow hfresh hcell2 hfr2
      obtain ⟨ho3, hst3⟩ := unhide HPUT
      rw [← unhide HL4] at ho3
      have HO3 := hide ho3
      have HB3 := hide ((hst.trans hst2).trans hst3)
      clear ho3 hst3 HPUT
      go_wp2
      go_roundw
      case rel => exact ⟨k + 1, by omega, by go_num, unhide HO3, unhide HB3⟩
      case measure => simp [intOf]; omega
    · have hkn : k = ns.length := by have := unhide HN; omega
      have e : ns.take k = ns := by rw [hkn]; exact List.take_length
      rw [e] at ho
      clear e
      go_wp2
      go_ret
      exact ⟨rfl, ho, hst⟩
end Go.Proofs.YthchnfgokkcepaaDoor
