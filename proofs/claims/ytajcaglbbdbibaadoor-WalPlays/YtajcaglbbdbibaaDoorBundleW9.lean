/- Texts that this proof needs, one behind the other: WResWalk, WTold. -/
import Derived.Test.YtajcaglbbdbibaaDoorBundleW7
import Derived.Test.YtajcaglbbdbibaaDoorBundleD8
import Derived.Deep.DeepCutAuto
import Derived.Deep.CutBlock
import Derived.Deep.QuietTactic
import Derived.BigQuiet
/- WalResume's walk. -/
namespace Go.Proofs.YtajcaglbbdbibaaDoor
open Go.RowKit
set_option linter.unusedVariables false
set_option maxRecDepth 100000

theorem append_step {base : Nat} {w : World} {b lb : Nat} {D : Dev} {fr ln x must : Nat} {ts : List (List UInt8)} (hp : PD fr ln x ts must D) (h : LogAt base w b lb D fr ln x ((x + Codec.costs ts : Nat) : Int)) (t : List UInt8) (hB : base ≤ w.heap.size) (ht : t.length ≤ 1000) (hl : 0 < ln) (hfl : fr + ln ≤ 24) (hx : 1 ≤ x) (hx2 : x + ln ≤ 1099511627776) :
    Calls Tryd.prog 11 #[.pointer (some ⟨lb, 0, none⟩), .string (S t)] w fun e w' => ∃ (er r0 r1 : Int) (rt : ByteArray) (ts' : List (List UInt8)) (D' : Dev), e = .returned (.tuple #[.agg #[.int .i64 r0, .int .i64 r1, .string rt], .int .i64 er]) ∧ PD fr ln x ts' must D' ∧ LogAt base w' b lb D' fr ln x ((x + Codec.costs ts' : Nat) : Int) ∧ D'.calls + Codec.costs ts = D.calls + Codec.costs ts' ∧ Below base w w' := by
  refine (append_law hp h t hB ht hl hfl hx hx2).mono ?_
  rintro e w' ⟨er, r0, r1, rt, rfl, hst, ho⟩
  have hcs : Codec.costs (ts ++ [t]) = Codec.costs ts + Codec.cost t.length := by rw [Codec.costs_append]; simp [Codec.costs]
  rcases ho with ⟨_, _, _, _, _, h1, h2⟩ | ⟨_, _, _, _, _, h2⟩
  · exact ⟨er, r0, r1, rt, ts ++ [t], _, rfl, h1, h2, by show D.calls + Codec.cost t.length + _ = _; omega, hst.below h hB⟩
  · exact ⟨er, r0, r1, rt, ts, D, rfl, hp, h2, rfl, hst.below h hB⟩
theorem begin_pd (fr ln x : Nat) (hl : 0 < ln) (hfl : fr + ln ≤ 24) : PD fr ln x [] 0 (Dev.new 24) :=
  PD.start rfl rfl rfl (by simp [Dev.new]) (Fine.new 24 (by omega)) rfl (by simp [Dev.new]) (fun a h1 h2 c hc => by rw [new_can 24 _ c hc]; exact bad_blank a)

theorem rcs_get : ∀ (a : List Codec.Rec) (k : Nat) (h : k < a.length), (rcs a)[k * 3]? = some (.int .i64 ((a[k]'h).first : Int)) ∧ (rcs a)[k * 3 + 1]? = some (.int .i64 ((a[k]'h).last : Int)) ∧ (rcs a)[k * 3 + 2]? = some (.string (S (a[k]'h).text))
  | x :: r, 0, h => by simp [rcs]
  | x :: r, k + 1, h => by
    have := rcs_get r k (by simpa using h)
    have e : (k + 1) * 3 = k * 3 + 1 + 1 + 1 := by omega
    rw [e]
    simpa [rcs] using this
theorem rec_cells {w : World} {base g n c : Nat} {l : List Codec.Rec} (h : w.ownsRow base 37 3 (.slice (some ⟨g, 0, none⟩) n c) n (rcs l)) (k : Nat) (hk : k < l.length) :
    w.cell? ⟨g, k * 3, none⟩ = some (.int .i64 ((l[k]'hk).first : Int)) ∧ w.cell? ⟨g, k * 3 + 1, none⟩ = some (.int .i64 ((l[k]'hk).last : Int)) ∧ w.cell? ⟨g, k * 3 + 2, none⟩ = some (.string (S (l[k]'hk).text)) := by
  obtain ⟨h1, h2, h3⟩ := rcs_get l k hk
  exact ⟨ownsRow_cell h rfl _ _ h1, ownsRow_cell h rfl _ _ h2, ownsRow_cell h rfl _ _ h3⟩
theorem len_costs (ts : List (List UInt8)) : ts.length ≤ Codec.costs ts := by
  induction ts with
  | nil => exact Nat.le_refl _
  | cons t r ih => have := Codec.cost_pos t.length; simp [Codec.costs]; omega
theorem recs_snoc (x : Nat) (us : List (List UInt8)) (t : List UInt8) : Codec.recs x (us ++ [t]) = Codec.recs x us ++ [⟨x + Codec.costs us, x + Codec.costs us + Codec.cost t.length - 1, t⟩] := by
  rw [Codec.recs_append]; rfl
theorem recs_pre (us : List (List UInt8)) (x k i : Nat) (h : i < (us.take k).length) (h2 : i < us.length) : (Codec.recs x (us.take k))[i]'(by rw [Codec.recs_length]; exact h) = (Codec.recs x us)[i]'(by rw [Codec.recs_length]; exact h2) := by
  have e1 := recs_get (us.take k) x i h
  have e2 := recs_get us x i h2
  have hik : i < k := by rw [List.length_take] at h; omega
  rw [List.take_take, Nat.min_eq_left (by omega), List.getElem_take] at e1
  rw [← e2] at e1
  rw [List.getElem?_eq_getElem (by rw [Codec.recs_length]; exact h), List.getElem?_eq_getElem (by rw [Codec.recs_length]; exact h2)] at e1
  exact Option.some.inj e1

theorem w_mask2 (n : Int) (k : Nat) (m : Int) (hk : k < 63) (hm : (BitVec.ofInt 64 m).toNat = 2 ^ k - 1) : bits .and .i64 n m = n % (2 ^ k : Nat) := by
  have key : (BitVec.ofInt 64 n &&& BitVec.ofInt 64 m).toNat = (n % ((2 ^ 64 : Nat) : Int)).toNat % 2 ^ k := by
    rw [BitVec.toNat_and, BitVec.toNat_ofInt, hm, Nat.and_two_pow_sub_one_eq_mod]
  show IntKind.i64.wrap ((BitVec.ofInt 64 n &&& BitVec.ofInt 64 m).toNat : Nat) = n % (2 ^ k : Nat)
  have hlt : (n % ((2 ^ 64 : Nat) : Int)).toNat % 2 ^ k < 2 ^ 63 := Nat.lt_trans (Nat.mod_lt _ (Nat.two_pow_pos k)) (Nat.pow_lt_pow_right (by omega) hk)
  rw [key, IntKind.wrap_i64]
  have hd : (2 ^ 64 : Nat) = 2 ^ k * 2 ^ (64 - k) := by rw [← Nat.pow_add]; congr 1; omega
  have h1 : (((n % ((2 ^ 64 : Nat) : Int)).toNat % 2 ^ k : Nat) : Int) = n % (2 ^ k : Nat) := by
    rw [Int.natCast_emod, Int.toNat_of_nonneg (Int.emod_nonneg _ (by simp)), hd, Int.natCast_mul, Int.emod_emod_of_dvd _ ⟨_, rfl⟩]
  rw [h1]
  have h2 : (n % (2 ^ k : Nat)) < 9223372036854775808 := by
    have : (2 : Nat) ^ 63 = 9223372036854775808 := by decide
    rw [← h1]; omega
  have h3 : 0 ≤ n % (2 ^ k : Nat) := by rw [← h1]; omega
  omega

end Go.Proofs.YtajcaglbbdbibaaDoor
/- The contracts of the laws' told and area: records in two rows are the same. -/
namespace Go.Proofs.YtajcaglbbdbibaaDoor
open Go.RowKit
set_option linter.unusedVariables false
set_option maxRecDepth 100000

theorem rec3_get : ∀ (l : List Codec.Rec) (k : Nat) (h : k < l.length), (rcs l)[k * 3]? = some (.int .i64 ((l[k]'h).first : Int)) ∧ (rcs l)[k * 3 + 1]? = some (.int .i64 ((l[k]'h).last : Int)) ∧ (rcs l)[k * 3 + 2]? = some (.string (S (l[k]'h).text))
  | x :: r, 0, h => by simp [rcs]
  | x :: r, k + 1, h => by
    have := rec3_get r k (by simpa using h)
    have e : (k + 1) * 3 = k * 3 + 1 + 1 + 1 := by omega
    rw [e]
    simpa [rcs] using this
theorem rec3_cells {w : World} {ty : TypeId} {base g n c : Nat} {l : List Codec.Rec} (h : w.ownsRow base ty 3 (.slice (some ⟨g, 0, none⟩) n c) n (rcs l)) (k : Nat) (hk : k < l.length) :
    w.cell? ⟨g, k * 3, none⟩ = some (.int .i64 ((l[k]'hk).first : Int)) ∧ w.cell? ⟨g, k * 3 + 1, none⟩ = some (.int .i64 ((l[k]'hk).last : Int)) ∧ w.cell? ⟨g, k * 3 + 2, none⟩ = some (.string (S (l[k]'hk).text)) := by
  obtain ⟨h1, h2, h3⟩ := rec3_get l k hk
  exact ⟨ownsRow_cell h rfl _ _ h1, ownsRow_cell h rfl _ _ h2, ownsRow_cell h rfl _ _ h3⟩

set_option maxHeartbeats 1600000 in
theorem told3_any {base base2 : Nat} {w : World} {v1 v2 : Value} {l : List Codec.Rec} (h1 : w.ownsRow base 37 3 v1 l.length (rcs l)) (h2 : w.ownsRow base2 41 3 v2 l.length (rcs l)) (hl : l.length ≤ 1000000) :
    Calls Tryd.prog 19 #[v1, v2] w fun e w' => e = .returned (.bool true) ∧ Below w.heap.size w w' := by
  obtain ⟨a1, c1, rfl, ha1⟩ := ownsRow_slice h1
  obtain ⟨a2, c2, rfl, ha2⟩ := ownsRow_slice h2
  have H1 := hide h1
  have H2 := hide h2
  obtain ⟨n, hn⟩ : ∃ n, l.length = n := ⟨_, rfl⟩
  have HN := hide hn
  rw [hn] at hl H1 H2 ha1 ha2 ⊢
  clear hn h1 h2
  go_enter Tryd.func19, Tryd.ntmps19
  go_wp2_with fail
  go_loopw [13] (fun i wr => ∃ j : Nat, j ≤ n ∧ i = .int .i64 j ∧ Below w.heap.size w wr) (fun i _ => n - (intOf i).toNat)
  case atStart => exact ⟨0, Nat.zero_le _, rfl, Below.refl _ _⟩
  case round =>
    obtain ⟨j, hj, rfl, hb⟩ := hrel
    have HB := hide hb
    by_cases hlt : j < n
    · obtain ⟨g1, rfl⟩ := ha1 (by omega)
      obtain ⟨g2, rfl⟩ := ha2 (by omega)
      have hjl : j < l.length := by rw [unhide HN]; exact hlt
      obtain ⟨x0, x1, x2⟩ := rec3_cells (ownsRow_later (unhide H1) hb) j hjl
      obtain ⟨y0, y1, y2⟩ := rec3_cells (ownsRow_later (unhide H2) hb) j hjl
      generalize l[j]'hjl = r at *
      have i1 : (j : Int) < (n : Int) := by omega
      have i3 : (0 : Int) ≤ (j : Int) := by omega
      clear hb
      go_wp2_with fail
      go_quiet (fail)
      clear x0 x1 x2 y0 y1 y2
      go_wp2_with fail
      go_roundw
      case rel => exact ⟨j + 1, by omega, by go_num, w_below_drewN (unhide HB) _⟩
      case measure => simp [intOf]; omega
    · have i1 : ¬ (j : Int) < (n : Int) := by omega
      clear hb
      go_wp2_with fail
      go_ret
      exact ⟨rfl, unhide HB⟩

theorem warea_any (a0 a1 : Int) (w : World) : ∃ fr ln : Nat, fr ≤ 7 ∧ 2 ≤ ln ∧ ln ≤ 17 ∧ Calls Tryd.prog 7 #[.int .i64 a0, .int .i64 a1] w fun e w' => e = .returned (.agg #[.int .i64 (fr : Int), .int .i64 (ln : Int)]) ∧ Below w.heap.size w w' := by
  obtain ⟨fr, hf, hf2⟩ : ∃ z : Nat, bits .and .i64 a0 7 = (z : Int) ∧ z ≤ 7 := ⟨(a0 % 8).toNat, by rw [w_mask2 a0 3 7 (by omega) (by decide)]; omega, by omega⟩
  obtain ⟨z, hz, hz2⟩ : ∃ z : Nat, bits .and .i64 a1 15 = (z : Int) ∧ z ≤ 15 := ⟨(a1 % 16).toNat, by rw [w_mask2 a1 4 15 (by omega) (by decide)]; omega, by omega⟩
  refine ⟨fr, 2 + z, hf2, by omega, by omega, ?_⟩
  have e1 : ((2 + z : Nat) : Int) = 2 + (z : Int) := by omega
  rw [e1]
  go_enter Tryd.func7, Tryd.ntmps7
  go_wp2_with fail
  exact bodyPost_ret (v := .agg #[.int .i64 (fr : Int), .int .i64 (2 + (z : Int))]) (by simp [results, Tryd.results7, go_sem]) rfl ⟨rfl, (Below.refl _ _).alloc (Nat.le_refl _) _⟩
end Go.Proofs.YtajcaglbbdbibaaDoor
