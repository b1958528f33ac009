/- The contracts of a space's size, Text and Parse. -/
import Derived.Test.YtemffpkpalncgaaUCalls
namespace Go.Proofs.Ytemffpkpalncgaa
open Go.RowKit
set_option linter.unusedVariables false

theorem usize_any (n : Nat) (w : World) (hn : n ≤ 128) :
    Calls Try.prog 28 #[.int .i64 (n : Int)] w fun e w' => e = .returned (.int .i64 (((n + 7) / 8 : Nat) : Int)) ∧ w' = w := by
  go_enter Try.func28, Try.ntmps28
  go_wp2_with fail
  go_ret
  exact ⟨ret_int (by omega), rfl⟩

/- The bytes of the first m pages, as cells. -/
def boCells (l : List Nat) (m : Nat) : List Value := (List.range ((l.length + 7) / 8)).map fun (k : Nat) => Value.int .u8 ((Sp.bo l m k : Nat) : Int)
theorem boCells_length (l : List Nat) (m : Nat) : (boCells l m).length = (l.length + 7) / 8 := by simp [boCells]
theorem boCells_get (l : List Nat) (m k : Nat) (h : k < (l.length + 7) / 8) : (boCells l m)[k]? = some (.int .u8 ((Sp.bo l m k : Nat) : Int)) := by simp [boCells, h]
theorem boCells_zero (l : List Nat) : boCells l 0 = List.replicate ((l.length + 7) / 8) (.int .u8 0) := by
  apply List.ext_getElem (by simp [boCells])
  intro j h1 h2
  simp [boCells, Sp.bo]
theorem boCells_same (l : List Nat) (m : Nat) (h : Sp.use (l.getD m 0) = false) : boCells l (m + 1) = boCells l m := by
  unfold boCells
  apply List.map_congr_left
  intro k _
  have : Sp.bo l (m + 1) k = Sp.bo l m k := by
    show Sp.bo l m k + _ = _
    rw [if_neg (by rw [h]; simp)]; rfl
  rw [this]
theorem boCells_set (l : List Nat) (m : Nat) (h : Sp.use (l.getD m 0) = true) : boCells l (m + 1) = (boCells l m).set (m / 8) (.int .u8 ((Sp.bo l m (m / 8) + 2 ^ (m % 8) : Nat) : Int)) := by
  apply List.ext_getElem (by simp [boCells])
  intro j h1 h2
  rw [List.getElem_set]
  have hj : j < (l.length + 7) / 8 := by simpa [boCells] using h1
  simp only [boCells, List.getElem_map, List.getElem_range]
  split
  · rename_i e
    subst e
    show Value.int .u8 ((Sp.bo l m (m / 8) + _ : Nat) : Int) = _
    rw [if_pos ⟨rfl, h⟩]
  · rename_i e
    show Value.int .u8 ((Sp.bo l m j + _ : Nat) : Int) = _
    rw [if_neg (by rintro ⟨a, _⟩; exact e a)]
    rfl
theorem boCells_full (l : List Nat) : boCells l l.length = (Sp.txt l).map fun c => Value.int .u8 (c.toNat : Int) := by
  unfold boCells Sp.txt
  rw [List.map_map]
  apply List.map_congr_left
  intro k _
  have := Sp.bo_lt l l.length k
  simp
  omega

theorem under_uint8s : Try.prog.underlying 56 = some (.slice 5) := by kernel_rfl

set_option maxHeartbeats 1600000 in
theorem utext_any {base : Nat} {w : World} {b g : Nat} {l : List Nat} (h : SpAt base w b g l) :
    Calls Try.prog 22 #[.pointer (some ⟨b, 0, none⟩)] w fun e w' => e = .returned (.string (S (Sp.txt l))) ∧ Below w.heap.size w w' := by
  obtain ⟨i0, hi, hz0, hz1, hz2⟩ := info_parts info_byte
  have hlen := h.len
  have hpos := h.pos
  have HSZ := hide (usize_any l.length w hlen)
  obtain ⟨q, hq⟩ : ∃ q, (l.length + 7) / 8 = q := ⟨_, rfl⟩
  rw [hq] at HSZ
  obtain ⟨w1, hmk, hown1, hgr1⟩ := run_make_full (P := Try.prog) w w.heap.size 56 5 i0 (.int .u8 0) 1 under_uint8s hi hz0 hz1 .i64 .i64 q (by rw [hz2]; omega) (by unfold maxLen; omega) (Nat.le_refl _)
  have hb1 : Below w.heap.size w w1 := (Below.refl _ _).grown hgr1 (Nat.le_refl _) (fun k e => by cases e)
  have hblk : w1.heap[w.heap.size]? = some (.cells (boCells l 0).toArray 5 (0, 0)) := by
    have e : (madeCells (Value.int .u8 0).cells (q * 1)).toList = List.replicate q (.int .u8 0) := by
      rw [Nat.mul_one]; exact toList_madeCells_one _ q
    rw [e] at hown1
    rcases hown1.2 with ⟨e1, e2⟩ | ⟨g, cap, cur, e1, hb, hh, hc, hm, hcs, ht⟩
    · cases e1
    · cases e1
      rw [hh, boCells_zero, hq, ← ht, List.take_of_length_le (by simp [hcs])]
  have h0 := h.c0
  have h1 := (h.later hb1).c0
  obtain ⟨N, hN⟩ : ∃ N, w.heap.size = N := ⟨_, rfl⟩
  rw [hN] at hmk hblk hb1 ⊢
  have HNN := hide hN
  have HBLK := hide hblk
  have HB1 := hide hb1
  have HH := hide h
  have HQ := hide hq
  obtain ⟨n, hn⟩ : ∃ n, l.length = n := ⟨_, rfl⟩
  rw [hn] at h0 h1 hlen hpos HSZ
  have HN := hide hn
  have hqs : q * 8 ≤ n + 7 ∧ n ≤ q * 8 := by omega
  obtain ⟨T, hT⟩ : ∃ T, Sp.txt l = T := ⟨_, rfl⟩
  rw [hT]
  have HT := hide hT
  clear hown1 hgr1 hblk hb1 hN h hq hn hT
  go_enter Try.func22, Try.ntmps22
  go_wp2_with fail
  refine (unhide HSZ).mono ?_
  rintro e w2 ⟨rfl, rfl⟩
  clear HSZ
  go_wp2_with fail
  clear hmk h0 h1
  go_loopw [18] (fun i wr => ∃ k : Nat, k ≤ n ∧ i = .int .i64 k ∧ wr.heap[N]? = some (.cells (boCells l k).toArray 5 (0, 0)) ∧ Below N w2 wr) (fun i _ => n - (intOf i).toNat)
  case atStart => exact ⟨0, Nat.zero_le _, rfl, unhide HBLK, unhide HB1⟩
  case round =>
    obtain ⟨k, hk, rfl, hbk, hbw⟩ := hrel
    clear HBLK HB1
    have HBK := hide hbk
    have HBW := hide hbw
    by_cases hlt : k < n
    · have hkl : k < l.length := by rw [unhide HN]; exact hlt
      have hsp : SpAt base wr b g l := (unhide HH).later (by rw [unhide HNN]; exact hbw)
      have hc := hsp.cell k hkl
      have e0 : l.getD k 0 = l[k] := by simp [List.getD, hkl]
      have HS1 := hide (boCells_set l k)
      have HS2 := hide (boCells_same l k)
      rw [e0] at HS1 HS2
      have i1 : (0 : Int) ≤ (k : Int) := by omega
      have i2 : (k : Int) < (n : Int) := by omega
      generalize l[k] = y at *
      clear hsp hbk hbw e0
      by_cases hu : Sp.use y = true
      · have hy : y = 1 ∨ y = 2 := by simpa [Sp.use] using hu
        obtain ⟨p, hp⟩ : ∃ p, k / 8 = p := ⟨_, rfl⟩
        obtain ⟨r, hr⟩ : ∃ r, k % 8 = r := ⟨_, rfl⟩
        have ep : (k : Int) / 8 = (p : Int) := by omega
        have er : (k : Int) % 8 = (r : Int) := by omega
        have hpq : p < q := by omega
        have hcb : wr.cell? ⟨N, p, none⟩ = some (.int .u8 ((Sp.bo l k p : Nat) : Int)) := by
          rw [block_cell (unhide HBK)]
          have := boCells_get l k p (by rw [unhide HQ]; exact hpq)
          simpa using this
        have hfz : wr.frozen? ⟨N, p, none⟩ = false := block_frozen (unhide HBK) p
        have hr8 : r < 8 := by omega
        have hbo := Sp.bo_low l k
        rw [hp, hr] at hbo
        have HE := unhide HS1 hu
        rw [hp, hr] at HE
        replace HE := hide HE
        have hor : bits .or .u8 ((Sp.bo l k p : Nat) : Int) ((2 : Int) ^ r % 256) = ((Sp.bo l k p + 2 ^ r : Nat) : Int) := by
          have h2 : 2 ^ r < 256 := by
            have : 2 ^ r ≤ 2 ^ 7 := Nat.pow_le_pow_right (by omega) (by omega)
            omega
          have h3 : (2 : Int) ^ r % 256 = ((2 ^ r : Nat) : Int) := by
            have : ((2 ^ r : Nat) : Int) = (2 : Int) ^ r := by simp
            rw [← this]
            omega
          rw [h3, u8_or_nat _ _ (Sp.bo_lt _ _ _) h2, Nat.or_comm]
          have := Nat.two_pow_add_eq_or_of_lt hbo 1
          rw [Nat.mul_one] at this
          rw [← this, Nat.add_comm]
        have p1 : (0 : Int) ≤ (p : Int) := by omega
        have p2 : (p : Int) < (q : Int) := by omega
        have r1 : (0 : Int) ≤ (r : Int) := by omega
        have r2 : (r : Int) < 8 := by omega
        clear HS1 HS2 hp hr hu
        generalize Sp.bo l k p = z at *
        rcases hy with rfl | rfl
        all_goals
          go_wp2_with fail
          go_region
          go_wp2_with fail
          go_roundw
          case rel =>
            refine ⟨k + 1, by omega, by go_num, ?_, ((unhide HBW).setCell (p := ⟨N, p, none⟩) (Nat.le_refl _) _).drew⟩
            have hz : (z : Int) + 2 ^ r = ((z + 2 ^ r : Nat) : Int) := by simp
            rw [hz]
            show (wr.setCell _ _).heap[N]? = _
            rw [heap_setCell_same wr N p _ _ _ (unhide HBK), unhide HE]
            simp
          case measure => simp [intOf]; omega
      · have hu2 : Sp.use y = false := by simpa using hu
        have hy : ¬ y = 1 ∧ ¬ y = 2 := by simpa [Sp.use] using hu2
        have HE := hide (unhide HS2 hu2)
        have e1 : ((y : Int) == 1) = false := by simp; omega
        have e2 : ((y : Int) == 2) = false := by simp; omega
        clear HS1 HS2 hu hu2 hy
        go_wp2_with fail
        go_roundw
        case rel =>
          refine ⟨k + 1, by omega, by go_num, ?_, unhide HBW⟩
          rw [unhide HE]
          exact unhide HBK
        case measure => simp [intOf]; omega
    · have : k = n := by omega
      subst this
      have hconv : (convert 56 9 (.slice (some ⟨N, 0, none⟩) q q)).run Try.prog wr = .ok (.string (S (Sp.txt l))) wr := by
        have hl : (Sp.txt l).length = q := by rw [Sp.txt_length, unhide HQ]
        have := run_convert_bytes_back (P := Try.prog) wr 56 9 5 ⟨N, 0, none⟩ q (Sp.txt l) under_bytes under_byte under_string (fun j hj => by
          rw [plain_add, Nat.zero_add, block_cell hbk]
          have e := boCells_full l
          rw [unhide HN] at e
          rw [e]
          simp [List.getElem?_eq_getElem hj])
        rw [hl] at this
        exact this
      rw [unhide HT] at hconv
      clear hbk hbw
      go_wp2_with fail
      go_ret
      exact ⟨rfl, unhide HBW⟩

theorem bit_shr (c : UInt8) (r : Nat) (hr : r < 8) : bits .and .u8 ((c.toNat : Int) / 2 ^ r) 1 = if c.toNat.testBit r then 1 else 0 := by
  have h1 : (c.toNat : Int) / 2 ^ r = ((c.toNat / 2 ^ r : Nat) : Int) := by simp
  have h2 : c.toNat / 2 ^ r < 256 := Nat.lt_of_le_of_lt (Nat.div_le_self _ _) c.toNat_lt
  have := u8_and_nat (c.toNat / 2 ^ r) 1 h2 (by omega)
  rw [h1]
  rw [Nat.and_one_is_mod] at this
  refine this.trans ?_
  rw [Nat.testBit_eq_decide_div_mod_eq]
  rcases Nat.mod_two_eq_zero_or_one (c.toNat / 2 ^ r) with e | e <;> simp [e]

theorem prs_set (n : Nat) (t : List UInt8) (k : Nat) (hk : k < n) : ((Sp.prs n t).take k ++ List.replicate (n - k) 0).set k (if Sp.bit t k then 1 else 0) = (Sp.prs n t).take (k + 1) ++ List.replicate (n - (k + 1)) 0 := by
  have e : ((Sp.prs n t).take k).length = k := by rw [List.length_take, Sp.prs_length]; omega
  have e2 : List.replicate (n - k) 0 = 0 :: List.replicate (n - (k + 1)) 0 := by
    have : n - k = (n - (k + 1)) + 1 := by omega
    rw [this, List.replicate_succ]
  have hkl : k < (Sp.prs n t).length := by rw [Sp.prs_length]; exact hk
  have e3 : (Sp.prs n t)[k] = if Sp.bit t k then 1 else 0 := by simp [Sp.prs]
  rw [List.set_append_right _ _ (by omega), e, Nat.sub_self, e2, List.set_cons_zero, List.take_succ_eq_append_getElem hkl, e3]
  simp
theorem prs_at (n : Nat) (t : List UInt8) (k : Nat) (hk : k < n) : ((Sp.prs n t).take k ++ List.replicate (n - k) 0)[k]? = some 0 := by
  have e : ((Sp.prs n t).take k).length = k := by rw [List.length_take, Sp.prs_length]; omega
  rw [List.getElem?_append_right (by omega), e, Nat.sub_self]
  have : n - k = (n - (k + 1)) + 1 := by omega
  rw [this, List.replicate_succ]
  rfl

theorem ba_ne {a b : ByteArray} (h : ¬a = b) : (a.toList == b.toList) = false := by
  rw [ByteArray.toList_eq, ByteArray.toList_eq, beq_eq_false_iff_ne]
  intro e
  apply h
  apply ByteArray.ext
  apply Array.ext'
  exact e
/- What a Parse answers: some pages, or none. -/
def UParsed (base n : Nat) (t : List UInt8) (w' : World) (e : Ending) : Prop :=
  if Sp.txt (Sp.prs n t) = t then ∃ b g, e = .returned (.tuple #[.pointer (some ⟨b, 0, none⟩), .int .i64 0]) ∧ SpAt base w' b g (Sp.prs n t) else e = .returned (.tuple #[.pointer none, .int .i64 2])

theorem uparse_len (n : Nat) (t : List UInt8) (w : World) (h1 : 1 ≤ n) (hn : n ≤ 128) (ht : t.length ≤ maxLen) (hl : t.length ≠ (n + 7) / 8) :
    Calls Try.prog 21 #[.int .i64 (n : Int), .string (S t)] w fun e w' => e = .returned (.tuple #[.pointer none, .int .i64 2]) ∧ Below w.heap.size w w' := by
  have HNEW := hide (unew_ok n w h1 hn)
  have HSZ := hide (fun w => usize_any n w hn)
  obtain ⟨q, hq⟩ : ∃ q, (n + 7) / 8 = q := ⟨_, rfl⟩
  rw [hq] at HSZ hl
  have hsz : (S t).size = t.length := S_size t
  unfold maxLen at ht
  have e1 : ((t.length : Int) == (q : Int)) = false := by simp; omega
  generalize S t = s at *
  generalize t.length = m at *
  clear hq hl
  go_enter Try.func21, Try.ntmps21
  go_wp2_with fail
  refine (unhide HNEW).mono ?_
  rintro e w1 ⟨b, g, rfl, hs1, hb1⟩
  have HB1 := hide hb1
  clear hs1 hb1
  go_wp2_with fail
  refine (unhide HSZ w1).mono ?_
  rintro e w2 ⟨rfl, rfl⟩
  go_wp2_with fail
  go_ret2
  exact ⟨rfl, unhide HB1⟩

set_option maxHeartbeats 1600000 in
theorem uparse_any (n : Nat) (t : List UInt8) (w : World) (h1 : 1 ≤ n) (hn : n ≤ 128) (hl : t.length = (n + 7) / 8) :
    Calls Try.prog 21 #[.int .i64 (n : Int), .string (S t)] w fun e w' => UParsed w.heap.size n t w' e ∧ Below w.heap.size w w' := by
  have HNEW := hide (unew_ok n w h1 hn)
  have HSZ := hide (fun w => usize_any n w hn)
  obtain ⟨q, hq⟩ : ∃ q, (n + 7) / 8 = q := ⟨_, rfl⟩
  rw [hq] at HSZ hl
  have hsz : (S t).size = q := by rw [S_size, hl]
  have HL := hide hl
  have HQ := hide hq
  have hqs : q * 8 ≤ n + 7 ∧ n ≤ q * 8 := by omega
  clear hl hq
  obtain ⟨s, hs⟩ : ∃ s, S t = s := ⟨_, rfl⟩
  rw [hs] at hsz ⊢
  have HSS := hide hs
  clear hs
  go_enter Try.func21, Try.ntmps21
  go_wp2_with fail
  refine (unhide HNEW).mono ?_
  rintro e w1 ⟨b, g, rfl, hs1, hb1⟩
  have HB1 := hide hb1
  have HS1 := hide hs1
  clear hs1 hb1 HNEW
  go_wp2_with fail
  refine (unhide HSZ w1).mono ?_
  rintro e w2 ⟨rfl, rfl⟩
  clear HSZ
  go_wp2_with fail
  go_loopw [23] (fun i wr => ∃ k : Nat, k ≤ n ∧ i = .int .i64 k ∧ SpAt w.heap.size wr b g ((Sp.prs n t).take k ++ List.replicate (n - k) 0) ∧ Below w.heap.size w wr) (fun i _ => n - (intOf i).toNat)
  case atStart => exact ⟨0, Nat.zero_le _, rfl, unhide HS1, unhide HB1⟩
  case round =>
    obtain ⟨k, hk, rfl, hr, hbw⟩ := hrel
    clear HS1 HB1
    have HR := hide hr
    have HBW := hide hbw
    by_cases hlt : k < n
    · obtain ⟨p, hp⟩ : ∃ p, k / 8 = p := ⟨_, rfl⟩
      obtain ⟨r, hr8⟩ : ∃ r, k % 8 = r := ⟨_, rfl⟩
      have ep : (k : Int) / 8 = (p : Int) := by omega
      have er : (k : Int) % 8 = (r : Int) := by omega
      have hpq : p < q := by omega
      have hpt : p < t.length := by rw [unhide HL]; exact hpq
      have hbit : bits .and .u8 (((t[p]).toNat : Int) / 2 ^ r) 1 = if Sp.bit t k then 1 else 0 := by
        unfold Sp.bit
        rw [hp, hr8, bit_shr _ r (by omega)]
        simp [List.getD, List.getElem?_eq_getElem hpt]
      have hix : ∀ h, s[p]'h = t[p]'hpt := by
        intro h
        have e := unhide HSS
        subst e
        rfl
      have hln : ((Sp.prs n t).take k ++ List.replicate (n - k) 0).length = n := by
        rw [List.length_append, List.length_take, Sp.prs_length, List.length_replicate]; omega
      have hc0 := hr.c0
      rw [hln] at hc0
      have hat := prs_at n t k hlt
      have hc := hr.cell k (by omega)
      rw [List.getElem?_eq_getElem (by omega)] at hat
      rw [Option.some.inj hat] at hc
      have hfz := hr.fz k
      have HS := hide (hr.set k 1 (by omega))
      have HE := hide (prs_set n t k hlt)
      have HG := hide hr.log
      have i1 : (0 : Int) ≤ (k : Int) := by omega
      have i2 : (k : Int) < (n : Int) := by omega
      have p1 : (0 : Int) ≤ (p : Int) := by omega
      have p2 : (p : Int) < (q : Int) := by omega
      have r1 : (0 : Int) ≤ (r : Int) := by omega
      have r2 : (r : Int) < 8 := by omega
      have hc256 : ((t[p]).toNat : Int) < 256 := by have := (t[p]).toNat_lt; omega
      have hc0' : (0 : Int) ≤ ((t[p]).toNat : Int) := by omega
      clear hr hbw hat hln hp hr8
      generalize t[p]'hpt = c at *
      cases hb : Sp.bit t k with
      | true =>
        rw [hb] at hbit HE
        rw [if_pos rfl] at hbit
        clear hb
        go_wp2_with fail
        go_roundw
        case rel =>
          refine ⟨k + 1, by omega, by go_num, ?_, (unhide HBW).setCell (p := ⟨g, k, none⟩) (unhide HG) _⟩
          have e1 := unhide HE
          rw [if_pos rfl] at e1
          rw [← e1]
          exact unhide HS
        case measure => simp [intOf]; omega
      | false =>
        rw [hb] at hbit HE
        rw [if_neg (by simp)] at hbit
        clear hb
        have HSame : Hid (((Sp.prs n t).take k ++ List.replicate (n - k) 0).set k 0 = (Sp.prs n t).take k ++ List.replicate (n - k) 0) := by
          apply List.ext_getElem (by simp)
          intro j h1 h2
          rw [List.getElem_set]
          split
          · rename_i e
            subst e
            have := prs_at n t k hlt
            rw [List.getElem?_eq_getElem h2] at this
            exact (Option.some.inj this).symm
          · rfl
        go_wp2_with fail
        go_roundw
        case rel =>
          refine ⟨k + 1, by omega, by go_num, ?_, unhide HBW⟩
          have e1 := unhide HE
          rw [if_neg (by simp), unhide HSame] at e1
          rw [← e1]
          exact unhide HR
        case measure => simp [intOf]; omega
    · have : k = n := by omega
      subst this
      clear hbw HR
      rw [Nat.sub_self, List.replicate_zero, List.append_nil, List.take_of_length_le (by rw [Sp.prs_length]; exact Nat.le_refl _)] at hr
      have HR := hide hr
      have HTX := hide (utext_any hr)
      have HTT : Hid (S (Sp.txt (Sp.prs k t)) = s ↔ Sp.txt (Sp.prs k t) = t) := by
        rw [← unhide HSS]
        exact ⟨S_inj, fun h => by rw [h]⟩
      obtain ⟨T, hT⟩ : ∃ T, S (Sp.txt (Sp.prs k t)) = T := ⟨_, rfl⟩
      rw [hT] at HTX HTT
      clear hr hT
      go_wp2_with fail
      refine (unhide HTX).mono ?_
      rintro e w3 ⟨rfl, hb3⟩
      have HB3 := hide hb3
      clear hb3
      by_cases hTs : T = s
      · have E1 := hide ((unhide HTT).1 hTs)
        clear HTT
        subst hTs
        go_wp2_with fail
        go_ret2
        have hb := unhide HB3
        refine ⟨?_, (unhide HBW).trans (hb.mono (unhide HBW).size)⟩
        unfold UParsed
        rw [if_pos (unhide E1)]
        exact ⟨b, g, rfl, (unhide HR).later hb⟩
      · have E1 := hide (fun h => hTs ((unhide HTT).2 h))
        have e2 := ba_ne hTs
        clear HTT
        go_wp2_with fail
        go_ret2
        refine ⟨?_, (unhide HBW).trans ((unhide HB3).mono (unhide HBW).size)⟩
        unfold UParsed
        rw [if_neg (unhide E1)]
        rfl
end Go.Proofs.Ytemffpkpalncgaa
