/- The law's Tidy: some call that may be asked. -/
import Derived.Test.YteaiidcconggcaaDoorMCheck
import Derived.Test.YteaiidcconggcaaDoorAOpen
import Derived.Test.YteaiidcconggcaaDoorCCut
import Derived.Test.YteaiidcconggcaaDoorVBase
import Derived.Sort.AtCall
namespace Go.Proofs.YteaiidcconggcaaDoor
open Go.RowKit
set_option linter.unusedVariables false
set_option maxRecDepth 100000

def MC.may (c : MC) : Prop := c.check = 0 ∧ I64 c.n
theorem MC.may_op {c : MC} (h : c.may) : okOp c.op := by
  have h0 := h.1
  unfold MC.check at h0
  by_cases e : okOp c.op
  · exact e
  · rw [if_pos e] at h0; exact absurd h0 (by decide)
theorem MC.may_len {c : MC} (h : c.may) : c.a.length ≤ 24 ∧ c.b.length ≤ 24 := by
  have h0 := h.1
  unfold MC.check at h0
  rw [if_neg (by simpa using MC.may_op h)] at h0
  split at h0
  · exact absurd h0 (by decide)
  · split at h0
    · exact absurd h0 (by decide)
    · omega
theorem may_of {op : Int} {a b : List UInt8} {n : Int} (h : okOp op) (hn : I64 n) (ha : a.length ≤ 24) (hb : b.length ≤ 24) (h1 : a = [] ∨ hasA op = true) (h2 : b = [] ∨ hasB op = true) (h3 : n = 0 ∨ hasN op = true) (h4 : ¬ (op = 5 ∨ op = 6) ∨ (1 ≤ n ∧ n ≤ 1048576)) : MC.may ⟨op, a, b, n⟩ := by
  refine ⟨?_, hn⟩
  unfold MC.check
  dsimp only
  rw [if_neg (by simpa using h), if_neg, if_neg (by omega), if_neg (by omega)]
  rintro (⟨h5, h6⟩ | ⟨h5, h6⟩ | ⟨h5, h6⟩)
  · rcases h1 with h1 | h1
    · exact h5 h1
    · rw [h1] at h6; cases h6
  · rcases h2 with h2 | h2
    · exact h5 h2
    · rw [h2] at h6; cases h6
  · rcases h3 with h3 | h3
    · exact h5 h3
    · rw [h3] at h6; cases h6

set_option maxHeartbeats 12800000 in
theorem mtidy_any {w : World} (op : Int) (s t : ByteArray) (n : Int) (hop : I64 op) (hn : I64 n) (hs : s.size ≤ maxLen) (ht : t.size ≤ maxLen) :
    Calls Tryd.prog 27 #[.agg #[.int .i64 op, .string s, .string t, .int .i64 n]] w fun e w' => ∃ V : MC, e = .returned (mcV V) ∧ V.may ∧ Below w.heap.size w w' := by
  have HCA := hide (fun (wy : World) => cut_any s 24 wy hs)
  have HCB := hide (fun (wy : World) => cut_any t 24 wy ht)
  have e24 : ((24 : Nat) : Int) = 24 := rfl
  rw [e24] at HCA HCB
  obtain ⟨x, hx⟩ : ∃ x, s.data.toList.take 24 = x := ⟨_, rfl⟩
  obtain ⟨y, hy⟩ : ∃ y, t.data.toList.take 24 = y := ⟨_, rfl⟩
  have HX : Hid (x.length ≤ 24) := by show _ ≤ _; rw [← hx]; simp; omega
  have HY : Hid (y.length ≤ 24) := by show _ ≤ _; rw [← hy]; simp; omega
  rw [hx] at HCA
  rw [hy] at HCB
  obtain ⟨z, hz⟩ : ∃ z, wrap64 (op - 1) = z := ⟨_, rfl⟩
  have hz2 : IntKind.i64.wrap (op - 1) = z := by rw [← hz, IntKind.wrap_i64]; simp only [wrap64]
  have hand := pl_and_mask z 8 255 (by decide) (by decide)
  have e256 : ((2 ^ 8 : Nat) : Int) = 256 := rfl
  rw [e256] at hand
  obtain ⟨r, hr0⟩ : ∃ r : Nat, z % 256 = (r : Int) := ⟨(z % 256).toNat, by omega⟩
  rw [hr0] at hand
  obtain ⟨q, hq⟩ : ∃ q, r % 17 = q := ⟨_, rfl⟩
  have hq7 : q < 17 := by rw [← hq]; exact Nat.mod_lt _ (by decide)
  obtain ⟨T, hT⟩ : ∃ T : Int, 1 + (q : Int) = T := ⟨_, rfl⟩
  have hrm : (r : Int) % 17 = (q : Int) := by rw [← hq]; exact (Int.natCast_emod r 17).symm
  have hrm2 : Int.tmod (r : Int) 17 = (q : Int) := by rw [Int.tmod_eq_emod_of_nonneg (by omega)]; exact hrm
  have hwq : IntKind.i64.wrap (q : Int) = (q : Int) := by rw [IntKind.wrap_i64]; omega
  have hwT : IntKind.i64.wrap (1 + (q : Int)) = T := by rw [IntKind.wrap_i64]; omega
  obtain ⟨zn, hzn⟩ : ∃ zn, wrap64 (n - 1) = zn := ⟨_, rfl⟩
  have hzn2 : IntKind.i64.wrap (n - 1) = zn := by rw [← hzn, IntKind.wrap_i64]; simp only [wrap64]
  have handn := pl_and_mask zn 20 1048575 (by decide) (by decide)
  have e20 : ((2 ^ 20 : Nat) : Int) = 1048576 := rfl
  rw [e20] at handn
  obtain ⟨rn, hrn⟩ : ∃ rn : Nat, zn % 1048576 = (rn : Int) := ⟨(zn % 1048576).toNat, by omega⟩
  rw [hrn] at handn
  have hrn2 : (rn : Int) < 1048576 := by omega
  have hwn : IntKind.i64.wrap (1 + (rn : Int)) = 1 + (rn : Int) := by rw [IntKind.wrap_i64]; omega
  have hTok : okOp T := by unfold okOp; omega
  have HA := hide (fun (w1 : World) => rhasA_any (w := w1) T)
  have HN := hide (fun (w1 : World) => rhasN_any (w := w1) T)
  have HNB := hide hn
  clear hx hy hs ht hr0 e256 e20 e24 hq hrn hop hn hT
  rcases op_cases hTok with rfl | rfl | rfl | rfl | rfl | rfl | rfl | rfl | rfl | rfl | rfl | rfl | rfl | rfl | rfl | rfl | rfl
  · rw [show hasA 1 = false from rfl] at HA
    rw [show hasN 1 = false from rfl] at HN
    have HMAY : Hid (MC.may ⟨1, [], [], 0⟩) := may_of hTok (by unfold I64; omega) (by simp) (by simp) (Or.inl rfl) (Or.inl rfl) (Or.inl rfl) (Or.inl (by omega))
    clear hTok
    go_enter Tryd.func27, Tryd.ntmps27
    go_wp2_with (first | (go_at_call 43; refine (unhide HA _).mono ?_; rintro e w2 ⟨rfl, rfl⟩) | (go_at_call 45; refine (unhide HN _).mono ?_; rintro e w2 ⟨rfl, rfl⟩) | (go_at_call_has 44 (Value.string s); refine (unhide HCA _).mono ?_; rintro e w2 ⟨rfl, rfl⟩) | (go_at_call 44; refine (unhide HCB _).mono ?_; rintro e w2 ⟨rfl, rfl⟩) | fail)
    exact bodyPost_ret (v := .agg #[.int .i64 1, .string (S []), .string (S []), .int .i64 0]) (by simp [results, Tryd.results27, go_sem]; try rfl) rfl ⟨_, rfl, unhide HMAY, ((under_box _).alloc (by simp) _).alloc (by simp; omega) _⟩
  · rw [show hasA 2 = true from rfl] at HA
    rw [show hasN 2 = false from rfl] at HN
    have HMAY : Hid (MC.may ⟨2, x, [], 0⟩) := may_of hTok (by unfold I64; omega) (unhide HX) (by simp) (Or.inr rfl) (Or.inl rfl) (Or.inl rfl) (Or.inl (by omega))
    clear hTok
    go_enter Tryd.func27, Tryd.ntmps27
    go_wp2_with (first | (go_at_call 43; refine (unhide HA _).mono ?_; rintro e w2 ⟨rfl, rfl⟩) | (go_at_call 45; refine (unhide HN _).mono ?_; rintro e w2 ⟨rfl, rfl⟩) | (go_at_call_has 44 (Value.string s); refine (unhide HCA _).mono ?_; rintro e w2 ⟨rfl, rfl⟩) | (go_at_call 44; refine (unhide HCB _).mono ?_; rintro e w2 ⟨rfl, rfl⟩) | fail)
    exact bodyPost_ret (v := .agg #[.int .i64 2, .string (S x), .string (S []), .int .i64 0]) (by simp [results, Tryd.results27, go_sem]; try rfl) rfl ⟨_, rfl, unhide HMAY, ((under_box _).alloc (by simp) _).alloc (by simp; omega) _⟩
  · rw [show hasA 3 = false from rfl] at HA
    rw [show hasN 3 = true from rfl] at HN
    have HMAY : Hid (MC.may ⟨3, [], [], n⟩) := may_of hTok (unhide HNB) (by simp) (by simp) (Or.inl rfl) (Or.inl rfl) (Or.inr rfl) (Or.inl (by omega))
    clear hTok
    go_enter Tryd.func27, Tryd.ntmps27
    go_wp2_with (first | (go_at_call 43; refine (unhide HA _).mono ?_; rintro e w2 ⟨rfl, rfl⟩) | (go_at_call 45; refine (unhide HN _).mono ?_; rintro e w2 ⟨rfl, rfl⟩) | (go_at_call_has 44 (Value.string s); refine (unhide HCA _).mono ?_; rintro e w2 ⟨rfl, rfl⟩) | (go_at_call 44; refine (unhide HCB _).mono ?_; rintro e w2 ⟨rfl, rfl⟩) | fail)
    exact bodyPost_ret (v := .agg #[.int .i64 3, .string (S []), .string (S []), .int .i64 n]) (by simp [results, Tryd.results27, go_sem]; try rfl) rfl ⟨_, rfl, unhide HMAY, ((under_box _).alloc (by simp) _).alloc (by simp; omega) _⟩
  · rw [show hasA 4 = false from rfl] at HA
    rw [show hasN 4 = false from rfl] at HN
    have HMAY : Hid (MC.may ⟨4, [], [], 0⟩) := may_of hTok (by unfold I64; omega) (by simp) (by simp) (Or.inl rfl) (Or.inl rfl) (Or.inl rfl) (Or.inl (by omega))
    clear hTok
    go_enter Tryd.func27, Tryd.ntmps27
    go_wp2_with (first | (go_at_call 43; refine (unhide HA _).mono ?_; rintro e w2 ⟨rfl, rfl⟩) | (go_at_call 45; refine (unhide HN _).mono ?_; rintro e w2 ⟨rfl, rfl⟩) | (go_at_call_has 44 (Value.string s); refine (unhide HCA _).mono ?_; rintro e w2 ⟨rfl, rfl⟩) | (go_at_call 44; refine (unhide HCB _).mono ?_; rintro e w2 ⟨rfl, rfl⟩) | fail)
    exact bodyPost_ret (v := .agg #[.int .i64 4, .string (S []), .string (S []), .int .i64 0]) (by simp [results, Tryd.results27, go_sem]; try rfl) rfl ⟨_, rfl, unhide HMAY, ((under_box _).alloc (by simp) _).alloc (by simp; omega) _⟩
  · rw [show hasA 5 = false from rfl] at HA
    rw [show hasN 5 = true from rfl] at HN
    have HMAY : Hid (MC.may ⟨5, [], [], (1 + (rn : Int))⟩) := may_of hTok (by unfold I64; omega) (by simp) (by simp) (Or.inl rfl) (Or.inl rfl) (Or.inr rfl) (Or.inr (by omega))
    clear hTok
    go_enter Tryd.func27, Tryd.ntmps27
    go_wp2_with (first | (go_at_call 43; refine (unhide HA _).mono ?_; rintro e w2 ⟨rfl, rfl⟩) | (go_at_call 45; refine (unhide HN _).mono ?_; rintro e w2 ⟨rfl, rfl⟩) | (go_at_call_has 44 (Value.string s); refine (unhide HCA _).mono ?_; rintro e w2 ⟨rfl, rfl⟩) | (go_at_call 44; refine (unhide HCB _).mono ?_; rintro e w2 ⟨rfl, rfl⟩) | fail)
    exact bodyPost_ret (v := .agg #[.int .i64 5, .string (S []), .string (S []), .int .i64 (1 + (rn : Int))]) (by simp [results, Tryd.results27, go_sem]; try rfl) rfl ⟨_, rfl, unhide HMAY, ((under_box _).alloc (by simp) _).alloc (by simp; omega) _⟩
  · rw [show hasA 6 = false from rfl] at HA
    rw [show hasN 6 = true from rfl] at HN
    have HMAY : Hid (MC.may ⟨6, [], [], (1 + (rn : Int))⟩) := may_of hTok (by unfold I64; omega) (by simp) (by simp) (Or.inl rfl) (Or.inl rfl) (Or.inr rfl) (Or.inr (by omega))
    clear hTok
    go_enter Tryd.func27, Tryd.ntmps27
    go_wp2_with (first | (go_at_call 43; refine (unhide HA _).mono ?_; rintro e w2 ⟨rfl, rfl⟩) | (go_at_call 45; refine (unhide HN _).mono ?_; rintro e w2 ⟨rfl, rfl⟩) | (go_at_call_has 44 (Value.string s); refine (unhide HCA _).mono ?_; rintro e w2 ⟨rfl, rfl⟩) | (go_at_call 44; refine (unhide HCB _).mono ?_; rintro e w2 ⟨rfl, rfl⟩) | fail)
    exact bodyPost_ret (v := .agg #[.int .i64 6, .string (S []), .string (S []), .int .i64 (1 + (rn : Int))]) (by simp [results, Tryd.results27, go_sem]; try rfl) rfl ⟨_, rfl, unhide HMAY, ((under_box _).alloc (by simp) _).alloc (by simp; omega) _⟩
  · rw [show hasA 7 = false from rfl] at HA
    rw [show hasN 7 = false from rfl] at HN
    have HMAY : Hid (MC.may ⟨7, [], [], 0⟩) := may_of hTok (by unfold I64; omega) (by simp) (by simp) (Or.inl rfl) (Or.inl rfl) (Or.inl rfl) (Or.inl (by omega))
    clear hTok
    go_enter Tryd.func27, Tryd.ntmps27
    go_wp2_with (first | (go_at_call 43; refine (unhide HA _).mono ?_; rintro e w2 ⟨rfl, rfl⟩) | (go_at_call 45; refine (unhide HN _).mono ?_; rintro e w2 ⟨rfl, rfl⟩) | (go_at_call_has 44 (Value.string s); refine (unhide HCA _).mono ?_; rintro e w2 ⟨rfl, rfl⟩) | (go_at_call 44; refine (unhide HCB _).mono ?_; rintro e w2 ⟨rfl, rfl⟩) | fail)
    exact bodyPost_ret (v := .agg #[.int .i64 7, .string (S []), .string (S []), .int .i64 0]) (by simp [results, Tryd.results27, go_sem]; try rfl) rfl ⟨_, rfl, unhide HMAY, ((under_box _).alloc (by simp) _).alloc (by simp; omega) _⟩
  · rw [show hasA 8 = true from rfl] at HA
    rw [show hasN 8 = false from rfl] at HN
    have HMAY : Hid (MC.may ⟨8, x, [], 0⟩) := may_of hTok (by unfold I64; omega) (unhide HX) (by simp) (Or.inr rfl) (Or.inl rfl) (Or.inl rfl) (Or.inl (by omega))
    clear hTok
    go_enter Tryd.func27, Tryd.ntmps27
    go_wp2_with (first | (go_at_call 43; refine (unhide HA _).mono ?_; rintro e w2 ⟨rfl, rfl⟩) | (go_at_call 45; refine (unhide HN _).mono ?_; rintro e w2 ⟨rfl, rfl⟩) | (go_at_call_has 44 (Value.string s); refine (unhide HCA _).mono ?_; rintro e w2 ⟨rfl, rfl⟩) | (go_at_call 44; refine (unhide HCB _).mono ?_; rintro e w2 ⟨rfl, rfl⟩) | fail)
    exact bodyPost_ret (v := .agg #[.int .i64 8, .string (S x), .string (S []), .int .i64 0]) (by simp [results, Tryd.results27, go_sem]; try rfl) rfl ⟨_, rfl, unhide HMAY, ((under_box _).alloc (by simp) _).alloc (by simp; omega) _⟩
  · rw [show hasA 9 = true from rfl] at HA
    rw [show hasN 9 = false from rfl] at HN
    have HMAY : Hid (MC.may ⟨9, x, [], 0⟩) := may_of hTok (by unfold I64; omega) (unhide HX) (by simp) (Or.inr rfl) (Or.inl rfl) (Or.inl rfl) (Or.inl (by omega))
    clear hTok
    go_enter Tryd.func27, Tryd.ntmps27
    go_wp2_with (first | (go_at_call 43; refine (unhide HA _).mono ?_; rintro e w2 ⟨rfl, rfl⟩) | (go_at_call 45; refine (unhide HN _).mono ?_; rintro e w2 ⟨rfl, rfl⟩) | (go_at_call_has 44 (Value.string s); refine (unhide HCA _).mono ?_; rintro e w2 ⟨rfl, rfl⟩) | (go_at_call 44; refine (unhide HCB _).mono ?_; rintro e w2 ⟨rfl, rfl⟩) | fail)
    exact bodyPost_ret (v := .agg #[.int .i64 9, .string (S x), .string (S []), .int .i64 0]) (by simp [results, Tryd.results27, go_sem]; try rfl) rfl ⟨_, rfl, unhide HMAY, ((under_box _).alloc (by simp) _).alloc (by simp; omega) _⟩
  · rw [show hasA 10 = true from rfl] at HA
    rw [show hasN 10 = false from rfl] at HN
    have HMAY : Hid (MC.may ⟨10, x, [], 0⟩) := may_of hTok (by unfold I64; omega) (unhide HX) (by simp) (Or.inr rfl) (Or.inl rfl) (Or.inl rfl) (Or.inl (by omega))
    clear hTok
    go_enter Tryd.func27, Tryd.ntmps27
    go_wp2_with (first | (go_at_call 43; refine (unhide HA _).mono ?_; rintro e w2 ⟨rfl, rfl⟩) | (go_at_call 45; refine (unhide HN _).mono ?_; rintro e w2 ⟨rfl, rfl⟩) | (go_at_call_has 44 (Value.string s); refine (unhide HCA _).mono ?_; rintro e w2 ⟨rfl, rfl⟩) | (go_at_call 44; refine (unhide HCB _).mono ?_; rintro e w2 ⟨rfl, rfl⟩) | fail)
    exact bodyPost_ret (v := .agg #[.int .i64 10, .string (S x), .string (S []), .int .i64 0]) (by simp [results, Tryd.results27, go_sem]; try rfl) rfl ⟨_, rfl, unhide HMAY, ((under_box _).alloc (by simp) _).alloc (by simp; omega) _⟩
  · rw [show hasA 11 = true from rfl] at HA
    rw [show hasN 11 = false from rfl] at HN
    have HMAY : Hid (MC.may ⟨11, x, y, 0⟩) := may_of hTok (by unfold I64; omega) (unhide HX) (unhide HY) (Or.inr rfl) (Or.inr rfl) (Or.inl rfl) (Or.inl (by omega))
    clear hTok
    go_enter Tryd.func27, Tryd.ntmps27
    go_wp2_with (first | (go_at_call 43; refine (unhide HA _).mono ?_; rintro e w2 ⟨rfl, rfl⟩) | (go_at_call 45; refine (unhide HN _).mono ?_; rintro e w2 ⟨rfl, rfl⟩) | (go_at_call_has 44 (Value.string s); refine (unhide HCA _).mono ?_; rintro e w2 ⟨rfl, rfl⟩) | (go_at_call 44; refine (unhide HCB _).mono ?_; rintro e w2 ⟨rfl, rfl⟩) | fail)
    exact bodyPost_ret (v := .agg #[.int .i64 11, .string (S x), .string (S y), .int .i64 0]) (by simp [results, Tryd.results27, go_sem]; try rfl) rfl ⟨_, rfl, unhide HMAY, ((under_box _).alloc (by simp) _).alloc (by simp; omega) _⟩
  · rw [show hasA 12 = true from rfl] at HA
    rw [show hasN 12 = false from rfl] at HN
    have HMAY : Hid (MC.may ⟨12, x, [], 0⟩) := may_of hTok (by unfold I64; omega) (unhide HX) (by simp) (Or.inr rfl) (Or.inl rfl) (Or.inl rfl) (Or.inl (by omega))
    clear hTok
    go_enter Tryd.func27, Tryd.ntmps27
    go_wp2_with (first | (go_at_call 43; refine (unhide HA _).mono ?_; rintro e w2 ⟨rfl, rfl⟩) | (go_at_call 45; refine (unhide HN _).mono ?_; rintro e w2 ⟨rfl, rfl⟩) | (go_at_call_has 44 (Value.string s); refine (unhide HCA _).mono ?_; rintro e w2 ⟨rfl, rfl⟩) | (go_at_call 44; refine (unhide HCB _).mono ?_; rintro e w2 ⟨rfl, rfl⟩) | fail)
    exact bodyPost_ret (v := .agg #[.int .i64 12, .string (S x), .string (S []), .int .i64 0]) (by simp [results, Tryd.results27, go_sem]; try rfl) rfl ⟨_, rfl, unhide HMAY, ((under_box _).alloc (by simp) _).alloc (by simp; omega) _⟩
  · rw [show hasA 13 = true from rfl] at HA
    rw [show hasN 13 = false from rfl] at HN
    have HMAY : Hid (MC.may ⟨13, x, [], 0⟩) := may_of hTok (by unfold I64; omega) (unhide HX) (by simp) (Or.inr rfl) (Or.inl rfl) (Or.inl rfl) (Or.inl (by omega))
    clear hTok
    go_enter Tryd.func27, Tryd.ntmps27
    go_wp2_with (first | (go_at_call 43; refine (unhide HA _).mono ?_; rintro e w2 ⟨rfl, rfl⟩) | (go_at_call 45; refine (unhide HN _).mono ?_; rintro e w2 ⟨rfl, rfl⟩) | (go_at_call_has 44 (Value.string s); refine (unhide HCA _).mono ?_; rintro e w2 ⟨rfl, rfl⟩) | (go_at_call 44; refine (unhide HCB _).mono ?_; rintro e w2 ⟨rfl, rfl⟩) | fail)
    exact bodyPost_ret (v := .agg #[.int .i64 13, .string (S x), .string (S []), .int .i64 0]) (by simp [results, Tryd.results27, go_sem]; try rfl) rfl ⟨_, rfl, unhide HMAY, ((under_box _).alloc (by simp) _).alloc (by simp; omega) _⟩
  · rw [show hasA 14 = true from rfl] at HA
    rw [show hasN 14 = false from rfl] at HN
    have HMAY : Hid (MC.may ⟨14, x, [], 0⟩) := may_of hTok (by unfold I64; omega) (unhide HX) (by simp) (Or.inr rfl) (Or.inl rfl) (Or.inl rfl) (Or.inl (by omega))
    clear hTok
    go_enter Tryd.func27, Tryd.ntmps27
    go_wp2_with (first | (go_at_call 43; refine (unhide HA _).mono ?_; rintro e w2 ⟨rfl, rfl⟩) | (go_at_call 45; refine (unhide HN _).mono ?_; rintro e w2 ⟨rfl, rfl⟩) | (go_at_call_has 44 (Value.string s); refine (unhide HCA _).mono ?_; rintro e w2 ⟨rfl, rfl⟩) | (go_at_call 44; refine (unhide HCB _).mono ?_; rintro e w2 ⟨rfl, rfl⟩) | fail)
    exact bodyPost_ret (v := .agg #[.int .i64 14, .string (S x), .string (S []), .int .i64 0]) (by simp [results, Tryd.results27, go_sem]; try rfl) rfl ⟨_, rfl, unhide HMAY, ((under_box _).alloc (by simp) _).alloc (by simp; omega) _⟩
  · rw [show hasA 15 = false from rfl] at HA
    rw [show hasN 15 = false from rfl] at HN
    have HMAY : Hid (MC.may ⟨15, [], [], 0⟩) := may_of hTok (by unfold I64; omega) (by simp) (by simp) (Or.inl rfl) (Or.inl rfl) (Or.inl rfl) (Or.inl (by omega))
    clear hTok
    go_enter Tryd.func27, Tryd.ntmps27
    go_wp2_with (first | (go_at_call 43; refine (unhide HA _).mono ?_; rintro e w2 ⟨rfl, rfl⟩) | (go_at_call 45; refine (unhide HN _).mono ?_; rintro e w2 ⟨rfl, rfl⟩) | (go_at_call_has 44 (Value.string s); refine (unhide HCA _).mono ?_; rintro e w2 ⟨rfl, rfl⟩) | (go_at_call 44; refine (unhide HCB _).mono ?_; rintro e w2 ⟨rfl, rfl⟩) | fail)
    exact bodyPost_ret (v := .agg #[.int .i64 15, .string (S []), .string (S []), .int .i64 0]) (by simp [results, Tryd.results27, go_sem]; try rfl) rfl ⟨_, rfl, unhide HMAY, ((under_box _).alloc (by simp) _).alloc (by simp; omega) _⟩
  · rw [show hasA 16 = true from rfl] at HA
    rw [show hasN 16 = false from rfl] at HN
    have HMAY : Hid (MC.may ⟨16, x, [], 0⟩) := may_of hTok (by unfold I64; omega) (unhide HX) (by simp) (Or.inr rfl) (Or.inl rfl) (Or.inl rfl) (Or.inl (by omega))
    clear hTok
    go_enter Tryd.func27, Tryd.ntmps27
    go_wp2_with (first | (go_at_call 43; refine (unhide HA _).mono ?_; rintro e w2 ⟨rfl, rfl⟩) | (go_at_call 45; refine (unhide HN _).mono ?_; rintro e w2 ⟨rfl, rfl⟩) | (go_at_call_has 44 (Value.string s); refine (unhide HCA _).mono ?_; rintro e w2 ⟨rfl, rfl⟩) | (go_at_call 44; refine (unhide HCB _).mono ?_; rintro e w2 ⟨rfl, rfl⟩) | fail)
    exact bodyPost_ret (v := .agg #[.int .i64 16, .string (S x), .string (S []), .int .i64 0]) (by simp [results, Tryd.results27, go_sem]; try rfl) rfl ⟨_, rfl, unhide HMAY, ((under_box _).alloc (by simp) _).alloc (by simp; omega) _⟩
  · rw [show hasA 17 = false from rfl] at HA
    rw [show hasN 17 = false from rfl] at HN
    have HMAY : Hid (MC.may ⟨17, [], [], 0⟩) := may_of hTok (by unfold I64; omega) (by simp) (by simp) (Or.inl rfl) (Or.inl rfl) (Or.inl rfl) (Or.inl (by omega))
    clear hTok
    go_enter Tryd.func27, Tryd.ntmps27
    go_wp2_with (first | (go_at_call 43; refine (unhide HA _).mono ?_; rintro e w2 ⟨rfl, rfl⟩) | (go_at_call 45; refine (unhide HN _).mono ?_; rintro e w2 ⟨rfl, rfl⟩) | (go_at_call_has 44 (Value.string s); refine (unhide HCA _).mono ?_; rintro e w2 ⟨rfl, rfl⟩) | (go_at_call 44; refine (unhide HCB _).mono ?_; rintro e w2 ⟨rfl, rfl⟩) | fail)
    exact bodyPost_ret (v := .agg #[.int .i64 17, .string (S []), .string (S []), .int .i64 0]) (by simp [results, Tryd.results27, go_sem]; try rfl) rfl ⟨_, rfl, unhide HMAY, ((under_box _).alloc (by simp) _).alloc (by simp; omega) _⟩
end Go.Proofs.YteaiidcconggcaaDoor
