/- Texts that this proof needs, one behind the other: WResWalk, WPrefix. -/
import Derived.Test.YtajcaglbbdbibaaDoorBundleW7
import Derived.Test.YtajcaglbbdbibaaDoorBundleD8
import Derived.Deep.DeepCutAuto
import Derived.Deep.CutBlock
/- WalResume's walk. -/
namespace Go.Proofs.YtajcaglbbdbibaaDoor
open Go.RowKit
set_option linter.unusedVariables false
set_option maxRecDepth 100000

theorem append_step {base : Nat} {w : World} {b lb : Nat} {D : Dev} {fr ln x must : Nat} {ts : List (List UInt8)} (hp : PD fr ln x ts must D) (h : LogAt base w b lb D fr ln x ((x + Codec.costs ts : Nat) : Int)) (t : List UInt8) (hB : base ≤ w.heap.size) (ht : t.length ≤ 1000) (hl : 0 < ln) (hfl : fr + ln ≤ 24) (hx : 1 ≤ x) (hx2 : x + ln ≤ 1099511627776) :
    Calls Tryd.prog 11 #[.pointer (some ⟨lb, 0, none⟩), .string (S t)] w fun e w' => ∃ (er r0 r1 : Int) (rt : ByteArray) (ts' : List (List UInt8)) (D' : Dev), e = .returned (.tuple #[.agg #[.int .i64 r0, .int .i64 r1, .string rt], .int .i64 er]) ∧ PD fr ln x ts' must D' ∧ LogAt base w' b lb D' fr ln x ((x + Codec.costs ts' : Nat) : Int) ∧ D'.calls + Codec.costs ts = D.calls + Codec.costs ts' ∧ Below base w w' := by
  refine (append_law hp h t hB ht hl hfl hx hx2).mono ?_
  rintro e w' ⟨er, r0, r1, rt, rfl, hst, ho⟩
  have hcs : Codec.costs (ts ++ [t]) = Codec.costs ts + Codec.cost t.length := by rw [Codec.costs_append]; simp [Codec.costs]
  rcases ho with ⟨_, _, _, _, _, h1, h2⟩ | ⟨_, _, _, _, _, h2⟩
  · exact ⟨er, r0, r1, rt, ts ++ [t], _, rfl, h1, h2, by show D.calls + Codec.cost t.length + _ = _; omega, hst.below h hB⟩
  · exact ⟨er, r0, r1, rt, ts, D, rfl, hp, h2, rfl, hst.below h hB⟩
theorem begin_pd (fr ln x : Nat) (hl : 0 < ln) (hfl : fr + ln ≤ 24) : PD fr ln x [] 0 (Dev.new 24) :=
  PD.start rfl rfl rfl (by simp [Dev.new]) (Fine.new 24 (by omega)) rfl (by simp [Dev.new]) (fun a h1 h2 c hc => by rw [new_can 24 _ c hc]; exact bad_blank a)

theorem rcs_get : ∀ (a : List Codec.Rec) (k : Nat) (h : k < a.length), (rcs a)[k * 3]? = some (.int .i64 ((a[k]'h).first : Int)) ∧ (rcs a)[k * 3 + 1]? = some (.int .i64 ((a[k]'h).last : Int)) ∧ (rcs a)[k * 3 + 2]? = some (.string (S (a[k]'h).text))
  | x :: r, 0, h => by simp [rcs]
  | x :: r, k + 1, h => by
    have := rcs_get r k (by simpa using h)
    have e : (k + 1) * 3 = k * 3 + 1 + 1 + 1 := by omega
    rw [e]
    simpa [rcs] using this
theorem rec_cells {w : World} {base g n c : Nat} {l : List Codec.Rec} (h : w.ownsRow base 37 3 (.slice (some ⟨g, 0, none⟩) n c) n (rcs l)) (k : Nat) (hk : k < l.length) :
    w.cell? ⟨g, k * 3, none⟩ = some (.int .i64 ((l[k]'hk).first : Int)) ∧ w.cell? ⟨g, k * 3 + 1, none⟩ = some (.int .i64 ((l[k]'hk).last : Int)) ∧ w.cell? ⟨g, k * 3 + 2, none⟩ = some (.string (S (l[k]'hk).text)) := by
  obtain ⟨h1, h2, h3⟩ := rcs_get l k hk
  exact ⟨ownsRow_cell h rfl _ _ h1, ownsRow_cell h rfl _ _ h2, ownsRow_cell h rfl _ _ h3⟩
theorem len_costs (ts : List (List UInt8)) : ts.length ≤ Codec.costs ts := by
  induction ts with
  | nil => exact Nat.le_refl _
  | cons t r ih => have := Codec.cost_pos t.length; simp [Codec.costs]; omega
theorem recs_snoc (x : Nat) (us : List (List UInt8)) (t : List UInt8) : Codec.recs x (us ++ [t]) = Codec.recs x us ++ [⟨x + Codec.costs us, x + Codec.costs us + Codec.cost t.length - 1, t⟩] := by
  rw [Codec.recs_append]; rfl
theorem recs_pre (us : List (List UInt8)) (x k i : Nat) (h : i < (us.take k).length) (h2 : i < us.length) : (Codec.recs x (us.take k))[i]'(by rw [Codec.recs_length]; exact h) = (Codec.recs x us)[i]'(by rw [Codec.recs_length]; exact h2) := by
  have e1 := recs_get (us.take k) x i h
  have e2 := recs_get us x i h2
  have hik : i < k := by rw [List.length_take] at h; omega
  rw [List.take_take, Nat.min_eq_left (by omega), List.getElem_take] at e1
  rw [← e2] at e1
  rw [List.getElem?_eq_getElem (by rw [Codec.recs_length]; exact h), List.getElem?_eq_getElem (by rw [Codec.recs_length]; exact h2)] at e1
  exact Option.some.inj e1

theorem w_mask2 (n : Int) (k : Nat) (m : Int) (hk : k < 63) (hm : (BitVec.ofInt 64 m).toNat = 2 ^ k - 1) : bits .and .i64 n m = n % (2 ^ k : Nat) := by
  have key : (BitVec.ofInt 64 n &&& BitVec.ofInt 64 m).toNat = (n % ((2 ^ 64 : Nat) : Int)).toNat % 2 ^ k := by
    rw [BitVec.toNat_and, BitVec.toNat_ofInt, hm, Nat.and_two_pow_sub_one_eq_mod]
  show IntKind.i64.wrap ((BitVec.ofInt 64 n &&& BitVec.ofInt 64 m).toNat : Nat) = n % (2 ^ k : Nat)
  have hlt : (n % ((2 ^ 64 : Nat) : Int)).toNat % 2 ^ k < 2 ^ 63 := Nat.lt_trans (Nat.mod_lt _ (Nat.two_pow_pos k)) (Nat.pow_lt_pow_right (by omega) hk)
  rw [key, IntKind.wrap_i64]
  have hd : (2 ^ 64 : Nat) = 2 ^ k * 2 ^ (64 - k) := by rw [← Nat.pow_add]; congr 1; omega
  have h1 : (((n % ((2 ^ 64 : Nat) : Int)).toNat % 2 ^ k : Nat) : Int) = n % (2 ^ k : Nat) := by
    rw [Int.natCast_emod, Int.toNat_of_nonneg (Int.emod_nonneg _ (by simp)), hd, Int.natCast_mul, Int.emod_emod_of_dvd _ ⟨_, rfl⟩]
  rw [h1]
  have h2 : (n % (2 ^ k : Nat)) < 9223372036854775808 := by
    have : (2 : Nat) ^ 63 = 9223372036854775808 := by decide
    rw [← h1]; omega
  have h3 : 0 ≤ n % (2 ^ k : Nat) := by rw [← h1]; omega
  omega

end Go.Proofs.YtajcaglbbdbibaaDoor
/- WalPrefix's walk. -/
namespace Go.Proofs.YtajcaglbbdbibaaDoor
open Go.RowKit
set_option linter.unusedVariables false
set_option maxRecDepth 100000

theorem w_cell_one (w : World) (u : Value) (t : TypeId) (j : Nat) (x : Value) (h : [u][j]? = some x) : (w.alloc (.cells #[u] t)).cell? ((⟨w.heap.size, 0, none⟩ : Addr).add j) = some x := by
  rw [plain_add, Nat.zero_add, block_cell (heap_alloc_new w _)]
  match j, h with
  | 0, h => simpa using h
  | j + 1, h => simp at h
theorem wr_add (a c : Nat) (h : a ≤ 1000000) (h2 : c ≤ 1000000) : IntKind.i64.wrap ((a : Int) + (c : Int)) = (a : Int) + (c : Int) ∧ wrap64 ((a : Int) + (c : Int)) = (a : Int) + (c : Int) := by
  refine ⟨by rw [IntKind.wrap_i64]; omega, by unfold wrap64; omega⟩
theorem wr_sub (a c n : Nat) (h : a ≤ 1000000) (h2 : c ≤ 1000000) (h3 : 1 ≤ c) (hn : a + c - 1 = n) : IntKind.i64.wrap ((a : Int) + (c : Int) - 1) = (n : Int) ∧ (a : Int) + (c : Int) - 1 = (n : Int) := by
  refine ⟨by rw [IntKind.wrap_i64]; omega, by omega⟩
theorem wr_one (n : Nat) (h : n ≤ 3000000) : wrap64 (n : Int) = (n : Int) ∧ wrap64 ((n : Int) + 1) = (n : Int) + 1 ∧ ((n : Int) != wrap64 (n : Int)) = false ∧ IntKind.i64.wrap (n : Int) = (n : Int) := by
  have e : wrap64 (n : Int) = (n : Int) := by unfold wrap64; omega
  refine ⟨e, by unfold wrap64; omega, by rw [e]; simp, by rw [IntKind.wrap_i64]; omega⟩
/- The state of a law that appends texts to a log and keeps those that it took. -/
structure TS (B : Nat) (w2 wr : World) (b lb fr ln x : Nat) (ts : List (List UInt8)) (must : Nat) (D : Dev) (v : Value) : Prop where
  pd : PD fr ln x ts must D
  log : LogAt B wr b lb D fr ln x ((x + Codec.costs ts : Nat) : Int)
  low : Below B w2 wr
  row : wr.ownsRow B 9 1 v ts.length (secs ts)
  far : Far wr b lb v
section
variable {B : Nat} {w2 wr w' : World} {b lb fr ln x : Nat} {ts : List (List UInt8)} {must : Nat} {D : Dev} {v : Value}
theorem TS.sz (h : TS B w2 wr b lb fr ln x ts must D v) : B ≤ wr.heap.size := by have := h.log.dev.lo; have := h.log.dev.lt; omega
theorem TS.later (h : TS B w2 wr b lb fr ln x ts must D v) (hb : Below wr.heap.size wr w') : TS B w2 w' b lb fr ln x ts must D v := by
  obtain ⟨h1, h2⟩ := h.log.later hb
  obtain ⟨h3, h4⟩ := h.far.step h.row h2
  exact ⟨h.pd, h1, h.low.trans (hb.mono h.sz), h4, h3⟩
theorem TS.grown (h : TS B w2 wr b lb fr ln x ts must D v) {v' : Value} {t : List UInt8} {D' : Dev} {w5 : World} (hp : PD fr ln x (ts ++ [t]) must D') (hl : LogAt B w5 b lb D' fr ln x ((x + Codec.costs (ts ++ [t]) : Nat) : Int)) (hlow : Below B w2 w5) (hrow : w5.ownsRow B 9 1 v ts.length (secs ts)) (hfar : Far w5 b lb v)
    (hown : w'.ownsRow B 9 1 v' (ts.length + 1) (secs ts ++ [.string (S t)])) (hg : w5.grownBy w' v.ownBlock) (hf : v'.ownBlock = v.ownBlock ∨ ∀ k, v'.ownBlock = some k → w5.heap.size ≤ k) : TS B w2 w' b lb fr ln x (ts ++ [t]) must D' v' := by
  refine ⟨hp, hl.grown hg hfar, hlow.grown hg (by have := hl.dev.lo; have := hl.dev.lt; omega) (fun q hq => by obtain ⟨cur, hc, hx⟩ := ownsRow_blk hrow hq; exact hx), ?_, hfar.grown hl hg hf⟩
  have e : secs (ts ++ [t]) = secs ts ++ [.string (S t)] := by simp [secs]
  rw [e, List.length_append]
  exact hown
end

set_option maxRecDepth 100000 in
set_option maxHeartbeats 6400000 in
theorem walPrefix_walk (a0 : Int) (h0 : (Lit.int .i64 a0).wf = true) (a1 : Option Addr) (len1 cap1 : Nat) (z1 : List ByteArray) (w : World) (w1 : IsStrs w a1 len1 cap1 z1) (a2 : Option Addr) (len2 cap2 : Nat) (z2 : List ByteArray) (w2 : IsStrs w a2 len2 cap2 z2)
    (a3 : Option Addr) (len3 cap3 : Nat) (z3 : List Int) (w3 : IsInts w a3 len3 cap3 z3) :
    Calls Tryd.prog 4 #[.int .i64 a0, .slice a1 len1 cap1, .slice a2 len2 cap2, .slice a3 len3 cap3] w fun e w' => e = .returned (.bool true) ∧ Below w.heap.size w w' := by
  obtain ⟨l1, hl1, hm1, _, hr1⟩ := w1.norm
  obtain ⟨l2, hl2, hm2, _, hr2⟩ := w2.norm
  obtain ⟨l3, hl3, hm3, hc3, hr3⟩ := w3.norm
  clear w1 w2 w3 h0
  unfold maxLen at hm1 hm2 hm3
  obtain ⟨z, hze, hz2⟩ : ∃ z : Nat, bits .and .i64 a0 65535 = (z : Int) ∧ z ≤ 65535 := ⟨(a0 % 65536).toNat, by rw [w_mask2 a0 16 65535 (by omega) (by decide)]; omega, by omega⟩
  obtain ⟨x, hx⟩ : ∃ x, 1 + z = x := ⟨_, rfl⟩
  have hxe : 1 + (z : Int) = (x : Int) := by omega
  have hx1 : 1 ≤ x := by omega
  have hx2 : x ≤ 65536 := by omega
  have HAW := hide (fun w => wawake_any w)
  have HBG := hide (fun wy => begin_log 2 20 x wy (by omega) (by unfold areaE; simp [Dev.new]) (by omega) (by omega))
  unfold AV at HBG
  have HR1 := hide hr1
  have HR2 := hide hr2
  have HR3 := hide hr3
  have HL1 := hide hl1
  have HL2 := hide hl2
  have HL3 := hide hl3
  obtain ⟨i0, hi, hz0, hz1, hz2'⟩ := info_parts info_string
  clear hr1 hr2 hr3 hl1 hl2 hl3 hx
  go_enter Tryd.func4, Tryd.ntmps4
  go_wp2_with fail
  refine (unhide HAW _).mono ?_
  rintro e w1 ⟨rfl, hb1⟩
  obtain ⟨w2, hw2⟩ : ∃ w2, w1.alloc (.cells #[.int .i64 2, .int .i64 20] 25) = w2 := ⟨_, rfl⟩
  obtain ⟨A, hA⟩ : ∃ A, w1.heap.size = A := ⟨_, rfl⟩
  have hb12 : Below w.heap.size w w2 := by rw [← hw2]; exact hb1.alloc hb1.size _
  have hx2' : w2.heap[A]? = some (.cells #[.int .i64 2, .int .i64 20] 25 (0, 0)) := by rw [← hw2, ← hA]; exact heap_alloc_new w1 _
  have p0 := bcell hx2' 0
  have p1 := bcell hx2' 1
  simp only [List.getElem?_toArray, List.getElem?_cons_zero, List.getElem?_cons_succ] at p0 p1
  have HX2 := hide hx2'
  have HB2 := hide hb12
  clear hb1 hx2' hb12 HAW
  go_wp2_with fail
  refine (unhide HBG _).mono ?_
  rintro e w3 ⟨b, lb, rfl, hl3, hb3⟩
  obtain ⟨B, hB⟩ : ∃ B, w2.heap.size = B := ⟨_, rfl⟩
  rw [hB] at hl3 hb3
  have HAB : Hid (A < B) := by rw [← hB]; exact block_lt (unhide HX2)
  have HWB : Hid (w.heap.size ≤ B) := by rw [← hB]; exact (unhide HB2).size
  have HTS : Hid (TS B w2 w3 b lb 2 20 x [] 0 (Dev.new 24) (.slice none 0 0)) := ⟨begin_pd 2 20 x (by omega) (by omega), hl3, hb3, World.ownsRow_nil _ _ _ _, Far.nil⟩
  have HNX := hide (next_any hl3.log)
  clear hl3 hb3 HBG hw2 hA hB p0 p1
  go_wp2_with fail
  refine (unhide HNX).mono ?_
  rintro e w3 ⟨rfl, rfl⟩
  clear HNX
  go_upto_block 0 with fail
  go_cut [14, 15, 16, 17, 18] (fun s14 _ _ _ _ wx => ∃ (ts : List (List UInt8)) (D : Dev) (ao : Option Addr) (c : Nat), s14 = .slice ao ts.length c ∧ TS B w2 wx b lb 2 20 x ts 0 D (.slice ao ts.length c) ∧ D.calls ≤ Codec.costs ts)
  case first =>
    go_wp2_with fail
    go_loopw [14, 15, 16, 17, 18] (fun v i _ _ _ wr => ∃ j : Nat, j ≤ len1 ∧ j ≤ 5 ∧ i = .int .i64 j ∧ ∃ (ts : List (List UInt8)) (D : Dev) (ao : Option Addr) (c : Nat), v = .slice ao ts.length c ∧ TS B w2 wr b lb 2 20 x ts 0 D (.slice ao ts.length c) ∧ D.calls ≤ Codec.costs ts) (fun _ i _ _ _ _ => 5 - (intOf i).toNat)
    case atStart => exact ⟨0, Nat.zero_le _, Nat.zero_le _, rfl, [], Dev.new 24, none, 0, rfl, unhide HTS, Nat.le_refl _⟩
    case round =>
      obtain ⟨j, hj0, hj5, rfl, ts, D, ao, c, rfl, hts, hcal⟩ := hrel
      clear HTS
      have hcst := hts.pd.cst
      have hus20 := len_costs ts
      have HTSj := hide hts
      have hlow := hts.low
      clear hts
      by_cases hlt0 : j < len1
      · have i1 : (j : Int) < (len1 : Int) := by omega
        by_cases hlt5 : j < 5
        · have hjL : j < l1.length := by have := unhide HL1; omega
          obtain ⟨bk, off, rfl, hc0⟩ := (unhide HR1).later ((unhide HB2).trans (hlow.mono (unhide HWB))) j hjL
          have i2 : (j : Int) < 5 := by omega
          have i3 : (0 : Int) ≤ (j : Int) := by omega
          generalize l1[j]'hjL = t at *
          have HCUT := hide (fun wy => dcut_any t 100 wy)
          obtain ⟨u, hu⟩ : ∃ u, t.take 100 = u := ⟨_, rfl⟩
          have hu100 : u.length ≤ 100 := by rw [← hu, List.length_take]; omega
          rw [hu] at HCUT
          have HAPP := hide (append_law (unhide HTSj).pd (unhide HTSj).log u (unhide HTSj).sz (by omega) (by omega) (by omega) (by omega) (by omega))
          clear hu hlow
          go_wp2_with fail
          refine (unhide HCUT _).mono ?_
          rintro e w4 ⟨rfl, rfl⟩
          clear HCUT hc0
          go_wp2_with fail
          refine (unhide HAPP).mono ?_
          rintro e w5 ⟨er, q0, q1, qt, rfl, hst5, hor⟩
          have hb5 := hst5.below (unhide HTSj).log (unhide HTSj).sz
          obtain ⟨hfar5, hrow5⟩ := (unhide HTSj).far.step (unhide HTSj).row hst5
          have hlow5 := (unhide HTSj).low.trans hb5
          have HSZ5 := hide (Nat.le_trans (unhide HTSj).sz hst5.size)
          clear hb5 hst5 HAPP
          rcases hor with ⟨rfl, hfit, rfl, rfl, rfl, hp5, hl5⟩ | ⟨rfl, hnf, rfl, rfl, rfl, hl5⟩
          · obtain ⟨n1, hn1⟩ : ∃ n1, x + Codec.costs ts = n1 := ⟨_, rfl⟩
            obtain ⟨n2, hn2⟩ : ∃ n2, x + Codec.costs ts + Codec.cost u.length - 1 = n2 := ⟨_, rfl⟩
            rw [hn2, hn1]
            obtain ⟨w6, hw6⟩ : ∃ w6, w5.alloc (.cells #[.int .i64 (n1 : Int), .int .i64 (n2 : Int), .string (S u)] 37) = w6 := ⟨_, rfl⟩
            have hb56 : Below w5.heap.size w5 w6 := by rw [← hw6]; exact (Below.refl _ _).alloc (Nat.le_refl _) _
            obtain ⟨hl6, hs6⟩ := hl5.later hb56
            obtain ⟨hfar6, hrow6⟩ := hfar5.step hrow5 hs6
            have hbA : Below w6.heap.size w6 (w6.alloc (.cells #[.string (S u)] 9)) := (Below.refl _ _).alloc (Nat.le_refl _) _
            obtain ⟨hlA, hsA⟩ := hl6.later hbA
            obtain ⟨hfarA, hrowA⟩ := hfar6.step hrow6 hsA
            have hlowA : Below B w2 (w6.alloc (.cells #[.string (S u)] 9)) := (hlow5.trans (hb56.mono (unhide HSZ5))).trans (hbA.mono (by have := unhide HSZ5; have := hb56.size; omega))
            have hcs : Codec.costs (ts ++ [u]) = Codec.costs ts + Codec.cost u.length := by rw [Codec.costs_append]; simp [Codec.costs]
            have HROWA := hide hrowA
            have HALL := hide (And.intro hp5 (And.intro hlA (And.intro hlowA hfarA)))
            have HCAL : Hid ((Dev.put 2 20 u (x + Codec.costs ts) D).calls ≤ Codec.costs (ts ++ [u])) := by rw [hcs]; show D.calls + Codec.cost u.length ≤ _; omega
            have HSZA : Hid (B ≤ w6.heap.size) := Nat.le_trans (unhide HSZ5) hb56.size
            clear hp5 hl5 hl6 hs6 hfar5 hrow5 hfar6 hrow6 hb56 hbA hlA hsA hfarA hrowA hlow5 hlowA hcs hn1 hn2
            go_wp2_with (first | (at_builtin; refine wpList_append_fresh rfl _ _ 50 rfl B 9 i0 (.string ⟨#[]⟩) 1 16 under_strings hi hz0 hz1 hz2' rfl (by decide) _ _ _ rfl (unhide HROWA) ⟨w6.heap.size, 0, none⟩ 1 1 [.string (S u)] rfl rfl (w_cell_one _ _ _) ?c2 ?c3 ?c4 ?c5 ?_) | fail)
            case c2 => intro y hy; simp at hy; subst hy; rfl
            case c3 => unfold maxLen; omega
            case c4 => omega
            case c5 => have := unhide HSZA; simp; omega
            intro v' w7 hown' hgrow hfresh
            obtain ⟨k1, k2, k3, k4⟩ := unhide HALL
            have hts7 := (unhide HTSj).grown k1 k2 k3 (unhide HROWA) k4 hown' hgrow (by simpa using hfresh)
            obtain ⟨ao7, c7, rfl, _⟩ := ownsRow_slice hown'
            have HE : Hid (∃ (ts' : List (List UInt8)) (D' : Dev) (ao' : Option Addr) (c' : Nat), Value.slice ao7 (ts.length + 1) c7 = .slice ao' ts'.length c' ∧ TS B w2 w7 b lb 2 20 x ts' 0 D' (.slice ao' ts'.length c') ∧ D'.calls ≤ Codec.costs ts') := by
              have e1 : (ts ++ [u]).length = ts.length + 1 := by simp
              exact ⟨ts ++ [u], _, ao7, c7, by rw [e1], by rw [e1]; exact hts7, unhide HCAL⟩
            clear hown' hgrow hfresh k1 k2 k3 k4 hts7
            go_wp2_with fail
            exact ⟨⟨j + 1, by omega, by omega, by simp, unhide HE⟩, by simp [intOf]; omega⟩
          · have HTS5 : Hid (TS B w2 w5 b lb 2 20 x ts 0 D (.slice ao ts.length c)) := ⟨(unhide HTSj).pd, hl5, hlow5, hrow5, hfar5⟩
            clear hl5 hlow5 hrow5 hfar5
            go_wp2_with fail
            exact ⟨⟨j + 1, by omega, by omega, by simp, ts, D, ao, c, rfl, (unhide HTS5).later ((Below.refl _ _).alloc (Nat.le_refl _) _), hcal⟩, by simp [intOf]; omega⟩
        · have i2 : ¬ (j : Int) < 5 := by omega
          go_wp2_with fail
          go_meet
          case rel => exact ⟨ts, D, ao, c, rfl, unhide HTSj, hcal⟩
      · have i1 : ¬ (j : Int) < (len1 : Int) := by omega
        go_wp2_with fail
        go_meet
        case rel => exact ⟨ts, D, ao, c, rfl, unhide HTSj, hcal⟩
  case rest =>
  obtain ⟨ts0, D0, ao0, c0, rfl, hts, hcal⟩ := hcut
  have hcst := hts.pd.cst
  obtain ⟨hfl, _, hfc⟩ : PD 2 20 x ts0 ts0.length D0.flush ∧ D0.flushE = 0 ∧ D0.flush.calls = D0.calls + 1 := by
    rcases hts.pd.flush (by omega) (by omega) with h | h
    · exact h
    · omega
  have HFO := hide (force_any hts.log hts.pd.fine.ok (by rw [hts.pd.lf]; omega) (by omega) (by have := hts.pd.wl; omega) (by rw [hts.pd.len]; omega))
  generalize D0.flushE = E at *
  have HTSc := hide hts
  have HFL := hide hfl
  have hcal0 : D0.flush.calls ≤ Codec.costs ts0 + 1 := by omega
  generalize D0.flush = D1 at *
  clear hts hfl hfc hcal HTS
  go_wp2_with fail
  refine (unhide HFO).mono ?_
  rintro e w4 ⟨rfl, hl4, hs4⟩
  have HTS2 : Hid (TS B w2 w4 b lb 2 20 x ts0 ts0.length D1 (.slice ao0 ts0.length c0)) := by
    obtain ⟨h3, h4⟩ := (unhide HTSc).far.step (unhide HTSc).row hs4
    exact ⟨unhide HFL, hl4, (unhide HTSc).low.trans (hs4.below (unhide HTSc).log (unhide HTSc).sz), h4, h3⟩
  clear hl4 hs4 HFO HTSc HFL
  go_upto_block 2 with fail
  go_cut [14, 20, 21, 22, 23] (fun s14 _ _ _ _ wx => ∃ (ts : List (List UInt8)) (D : Dev) (ao : Option Addr) (c : Nat), s14 = .slice ao ts.length c ∧ TS B w2 wx b lb 2 20 x ts ts0.length D (.slice ao ts.length c) ∧ D.calls ≤ Codec.costs ts + 1)
  case first =>
    go_wp2_with fail
    go_loopw [14, 20, 21, 22, 23] (fun v i _ _ _ wr => ∃ j : Nat, j ≤ len2 ∧ j ≤ 6 ∧ i = .int .i64 j ∧ ∃ (ts : List (List UInt8)) (D : Dev) (ao : Option Addr) (c : Nat), v = .slice ao ts.length c ∧ TS B w2 wr b lb 2 20 x ts ts0.length D (.slice ao ts.length c) ∧ D.calls ≤ Codec.costs ts + 1) (fun _ i _ _ _ _ => 6 - (intOf i).toNat)
    case atStart => exact ⟨0, Nat.zero_le _, Nat.zero_le _, rfl, ts0, D1, ao0, c0, rfl, unhide HTS2, hcal0⟩
    case round =>
      obtain ⟨j, hj0, hj6, rfl, ts, D, ao, c, rfl, hts, hcal⟩ := hrel
      clear HTS2
      have hcst := hts.pd.cst
      have hus20 := len_costs ts
      have HTSj := hide hts
      have hlow := hts.low
      clear hts
      by_cases hlt0 : j < len2
      · have i1 : (j : Int) < (len2 : Int) := by omega
        by_cases hlt6 : j < 6
        · have hjL : j < l2.length := by have := unhide HL2; omega
          obtain ⟨bk, off, rfl, hc0⟩ := (unhide HR2).later ((unhide HB2).trans (hlow.mono (unhide HWB))) j hjL
          have i2 : (j : Int) < 6 := by omega
          have i3 : (0 : Int) ≤ (j : Int) := by omega
          generalize l2[j]'hjL = t at *
          have HCUT := hide (fun wy => dcut_any t 100 wy)
          obtain ⟨u, hu⟩ : ∃ u, t.take 100 = u := ⟨_, rfl⟩
          have hu100 : u.length ≤ 100 := by rw [← hu, List.length_take]; omega
          rw [hu] at HCUT
          have HAPP := hide (append_law (unhide HTSj).pd (unhide HTSj).log u (unhide HTSj).sz (by omega) (by omega) (by omega) (by omega) (by omega))
          clear hu hlow
          go_wp2_with fail
          refine (unhide HCUT _).mono ?_
          rintro e w4 ⟨rfl, rfl⟩
          clear HCUT hc0
          go_wp2_with fail
          refine (unhide HAPP).mono ?_
          rintro e w5 ⟨er, q0, q1, qt, rfl, hst5, hor⟩
          have hb5 := hst5.below (unhide HTSj).log (unhide HTSj).sz
          obtain ⟨hfar5, hrow5⟩ := (unhide HTSj).far.step (unhide HTSj).row hst5
          have hlow5 := (unhide HTSj).low.trans hb5
          have HSZ5 := hide (Nat.le_trans (unhide HTSj).sz hst5.size)
          clear hb5 hst5 HAPP
          rcases hor with ⟨rfl, hfit, rfl, rfl, rfl, hp5, hl5⟩ | ⟨rfl, hnf, rfl, rfl, rfl, hl5⟩
          · obtain ⟨n1, hn1⟩ : ∃ n1, x + Codec.costs ts = n1 := ⟨_, rfl⟩
            obtain ⟨n2, hn2⟩ : ∃ n2, x + Codec.costs ts + Codec.cost u.length - 1 = n2 := ⟨_, rfl⟩
            rw [hn2, hn1]
            obtain ⟨w6, hw6⟩ : ∃ w6, w5.alloc (.cells #[.int .i64 (n1 : Int), .int .i64 (n2 : Int), .string (S u)] 37) = w6 := ⟨_, rfl⟩
            have hb56 : Below w5.heap.size w5 w6 := by rw [← hw6]; exact (Below.refl _ _).alloc (Nat.le_refl _) _
            obtain ⟨hl6, hs6⟩ := hl5.later hb56
            obtain ⟨hfar6, hrow6⟩ := hfar5.step hrow5 hs6
            have hbA : Below w6.heap.size w6 (w6.alloc (.cells #[.string (S u)] 9)) := (Below.refl _ _).alloc (Nat.le_refl _) _
            obtain ⟨hlA, hsA⟩ := hl6.later hbA
            obtain ⟨hfarA, hrowA⟩ := hfar6.step hrow6 hsA
            have hlowA : Below B w2 (w6.alloc (.cells #[.string (S u)] 9)) := (hlow5.trans (hb56.mono (unhide HSZ5))).trans (hbA.mono (by have := unhide HSZ5; have := hb56.size; omega))
            have hcs : Codec.costs (ts ++ [u]) = Codec.costs ts + Codec.cost u.length := by rw [Codec.costs_append]; simp [Codec.costs]
            have HROWA := hide hrowA
            have HALL := hide (And.intro hp5 (And.intro hlA (And.intro hlowA hfarA)))
            have HCAL : Hid ((Dev.put 2 20 u (x + Codec.costs ts) D).calls ≤ Codec.costs (ts ++ [u]) + 1) := by rw [hcs]; show D.calls + Codec.cost u.length ≤ _; omega
            have HSZA : Hid (B ≤ w6.heap.size) := Nat.le_trans (unhide HSZ5) hb56.size
            clear hp5 hl5 hl6 hs6 hfar5 hrow5 hfar6 hrow6 hb56 hbA hlA hsA hfarA hrowA hlow5 hlowA hcs hn1 hn2
            go_wp2_with (first | (at_builtin; refine wpList_append_fresh rfl _ _ 50 rfl B 9 i0 (.string ⟨#[]⟩) 1 16 under_strings hi hz0 hz1 hz2' rfl (by decide) _ _ _ rfl (unhide HROWA) ⟨w6.heap.size, 0, none⟩ 1 1 [.string (S u)] rfl rfl (w_cell_one _ _ _) ?c2 ?c3 ?c4 ?c5 ?_) | fail)
            case c2 => intro y hy; simp at hy; subst hy; rfl
            case c3 => unfold maxLen; omega
            case c4 => omega
            case c5 => have := unhide HSZA; simp; omega
            intro v' w7 hown' hgrow hfresh
            obtain ⟨k1, k2, k3, k4⟩ := unhide HALL
            have hts7 := (unhide HTSj).grown k1 k2 k3 (unhide HROWA) k4 hown' hgrow (by simpa using hfresh)
            obtain ⟨ao7, c7, rfl, _⟩ := ownsRow_slice hown'
            have HE : Hid (∃ (ts' : List (List UInt8)) (D' : Dev) (ao' : Option Addr) (c' : Nat), Value.slice ao7 (ts.length + 1) c7 = .slice ao' ts'.length c' ∧ TS B w2 w7 b lb 2 20 x ts' ts0.length D' (.slice ao' ts'.length c') ∧ D'.calls ≤ Codec.costs ts' + 1) := by
              have e1 : (ts ++ [u]).length = ts.length + 1 := by simp
              exact ⟨ts ++ [u], _, ao7, c7, by rw [e1], by rw [e1]; exact hts7, unhide HCAL⟩
            clear hown' hgrow hfresh k1 k2 k3 k4 hts7
            go_wp2_with fail
            exact ⟨⟨j + 1, by omega, by omega, by simp, unhide HE⟩, by simp [intOf]; omega⟩
          · have HTS5 : Hid (TS B w2 w5 b lb 2 20 x ts ts0.length D (.slice ao ts.length c)) := ⟨(unhide HTSj).pd, hl5, hlow5, hrow5, hfar5⟩
            clear hl5 hlow5 hrow5 hfar5
            go_wp2_with fail
            exact ⟨⟨j + 1, by omega, by omega, by simp, ts, D, ao, c, rfl, (unhide HTS5).later ((Below.refl _ _).alloc (Nat.le_refl _) _), hcal⟩, by simp [intOf]; omega⟩
        · have i2 : ¬ (j : Int) < 6 := by omega
          go_wp2_with fail
          go_meet
          case rel => exact ⟨ts, D, ao, c, rfl, unhide HTSj, hcal⟩
      · have i1 : ¬ (j : Int) < (len2 : Int) := by omega
        go_wp2_with fail
        go_meet
        case rel => exact ⟨ts, D, ao, c, rfl, unhide HTSj, hcal⟩
  case rest =>
  obtain ⟨ts, D, ao, c, rfl, hts, hcal⟩ := hcut
  have hcst2 := hts.pd.cst
  have hus20 := len_costs ts
  have HTSd := hide hts
  have hms := hts.pd.ms
  obtain ⟨kl, hkl⟩ : ∃ kl, l3.take 30 = kl := ⟨_, rfl⟩
  have HKL30 : Hid (kl.length ≤ 30) := by rw [← hkl]; show (l3.take 30).length ≤ 30; rw [List.length_take]; omega
  have HKB : Hid (∀ u, Below w.heap.size w u → (30 < len3 → NumRow u (.slice a3 30 cap3) kl) ∧ (¬ 30 < len3 → NumRow u (.slice a3 len3 cap3) kl)) := fun u hu => by
    have hlen : l3.length = len3 := unhide HL3
    refine ⟨fun h30 => ?_, fun h30 => ?_⟩
    · obtain ⟨ao', c', e, hrow⟩ := (unhide HR3).later hu
      refine ⟨a3, cap3, ?_, fun j hj => ?_⟩
      · rw [← hkl, List.length_take, hlen, Nat.min_eq_left (by omega)]
      · have hj2 : j < l3.length := by rw [← hkl, List.length_take] at hj; omega
        injection e with e1 e2 e3
        subst e1
        obtain ⟨bk, off, h1, h2⟩ := hrow j hj2
        refine ⟨bk, off, h1, ?_⟩
        rw [h2]
        congr 2
        subst hkl
        simp
    · have e : kl = l3 := by rw [← hkl]; exact List.take_of_length_le (by omega)
      rw [e]
      exact (unhide HR3).later hu
  clear hkl hts HTS2
  go_upto_if 106 with fail
  go_cut [3] (fun s3 wx => ∃ (kn kc : Nat), s3 = .slice a3 kn kc ∧ wx = wc ∧ (∀ u, Below w.heap.size w u → NumRow u (.slice a3 kn kc) kl))
  case first =>
    by_cases h30 : 30 < len3
    · have h30i : (30 : Int) < (len3 : Int) := by omega
      have h30c : (30 : Int) ≤ (cap3 : Int) := by omega
      go_wp2_with fail
      go_meet
      case rel => exact ⟨30, cap3, rfl, rfl, fun u hu => (unhide HKB u hu).1 h30⟩
    · have h30i : ¬ (30 : Int) < (len3 : Int) := by omega
      go_wp2_with fail
      go_meet
      case rel => exact ⟨len3, cap3, rfl, rfl, fun u hu => (unhide HKB u hu).2 h30⟩
  case rest =>
  obtain ⟨kn, kc, rfl, rfl, hk⟩ := hcut
  have hts := unhide HTSd
  obtain ⟨k2, hmk2, hk2, hscan2, _⟩ := hts.pd.found (by omega) (by omega) (by omega) (by omega) (D.crash kl) (by show (lay _ _).length = 24; rw [lay_length]; exact hts.pd.len) (crash_can D kl)
  have hbwW := (unhide HB2).trans (hts.low.mono (unhide HWB))
  have HCR2 := hide (crash_any hts.log.dev hts.pd.fine.ok _ kl (hk _ hbwW) (by have := hts.pd.wl; omega) (by rw [hts.pd.len]; omega) (by have := unhide HKL30; omega))
  have hF2 := hts.pd.fine.crash kl
  have hL2 : (D.crash kl).L.length = 24 := by show (lay _ _).length = 24; rw [lay_length]; exact hts.pd.len
  have HSC2 := hide (fun wy (hd : DevAt B wy b (D.crash kl)) => scan_ok hd 2 20 x (by omega) (by rw [hL2]; omega) (by rw [hL2]; omega) rfl hF2.cur (by omega) (by simp [Dev.crash]))
  rw [hscan2] at HSC2
  generalize D.crash kl = D5 at *
  obtain ⟨uk, huk⟩ : ∃ uk, ts.take k2 = uk := ⟨_, rfl⟩
  have hukl : uk.length = k2 := by rw [← huk, List.length_take]; omega
  rw [huk] at HSC2
  have hn1 : ¬ (uk.length : Int) < (ts0.length : Int) := by omega
  have hn2 : ¬ (ts.length : Int) < (uk.length : Int) := by omega
  have hukus : uk.length ≤ ts.length := by omega
  have HUK := hide huk
  have HUKL := hide hukl
  obtain ⟨en3, hen3⟩ : ∃ en3, x + Codec.costs uk = en3 := ⟨_, rfl⟩
  rw [hen3] at HSC2
  have HEN3 := hide hen3
  unfold AV at HSC2
  clear hscan2 huk hukl hen3 hts hbwW hF2 hL2 hmk2 hk2 HKB hk hms
  go_wp2_with fail
  refine (unhide HCR2).mono ?_
  rintro e w14 ⟨rfl, hd4, hs4⟩
  have hb4 := hs4.below (unhide HTSd).log.dev (unhide HTSd).sz
  have HB4 := hide ((unhide HTSd).low.trans hb4)
  have hx4 := ((unhide HB4).block A (unhide HAB)).trans (unhide HX2)
  have p0 := bcell hx4 0
  have p1 := bcell hx4 1
  simp only [List.getElem?_toArray, List.getElem?_cons_zero, List.getElem?_cons_succ] at p0 p1
  have HSC4 := hide (unhide HSC2 w14 hd4)
  have HSZ4 := hide (Nat.le_trans (unhide HTSd).sz hs4.size)
  have hrow4 := (unhide HTSd).far.step (unhide HTSd).row (LStep.of hs4)
  have HROW4 := hide hrow4.2
  clear hd4 hs4 hb4 hx4 hrow4 HCR2 HSC2 HTSd
  go_wp2_with fail
  refine (unhide HSC4).mono ?_
  rintro e w15 ⟨v28, rfl, ho5, hb5⟩
  obtain ⟨ao8, c8, rfl, _⟩ := ownsRow_slice ho5
  rw [Codec.recs_length] at ho5
  rw [Codec.recs_length]
  have HO15 := hide ho5
  have HROW15 := hide (ownsRow_later (unhide HROW4) hb5)
  have HB15 := hide ((unhide HB4).trans (hb5.mono (unhide HSZ4)))
  have HSZ15 := hide (Nat.le_trans (unhide HSZ4) hb5.size)
  clear ho5 hb5 HSC4 HB4 HSZ4 HROW4 p0 p1
  go_wp2_with fail
  go_loopw [138, 28, 29, 27] (fun i _ _ at' wr => ∃ j : Nat, j ≤ uk.length ∧ i = .int .i64 j ∧ at' = .int .i64 ((x + Codec.costs (ts.take j) : Nat) : Int) ∧ Below w15.heap.size w15 wr) (fun i _ _ _ _ => uk.length - (intOf i).toNat)
  case atStart => exact ⟨0, Nat.zero_le _, rfl, by simp [Codec.costs], Below.refl _ _⟩
  case round =>
    obtain ⟨j, hj, rfl, rfl, hbr⟩ := hrel
    by_cases hjt : j < uk.length
    · have hra := ownsRow_later (unhide HROW15) hbr
      have hrb := ownsRow_later (unhide HO15) hbr
      obtain ⟨_, _, ea, hga⟩ := ownsRow_slice hra
      obtain ⟨_, _, eb, hgb⟩ := ownsRow_slice hrb
      injection ea with ea1 ea2 ea3
      injection eb with eb1 eb2 eb3
      obtain ⟨ga, hga'⟩ := hga (by omega)
      obtain ⟨gb, hgb'⟩ := hgb (by omega)
      rw [← ea1] at hga'
      rw [← eb1] at hgb'
      subst hga' hgb'
      have hjts : j < ts.length := by omega
      have hjr : j < (Codec.recs x uk).length := by rw [Codec.recs_length]; exact hjt
      have hjs : j < (Codec.recs x ts).length := by rw [Codec.recs_length]; omega
      have hsame : (Codec.recs x uk)[j]'hjr = ⟨x + Codec.costs (ts.take j), x + Codec.costs (ts.take j) + Codec.cost (ts[j]'hjts).length - 1, ts[j]'hjts⟩ := by
        have h1 : (Codec.recs x uk)[j]'hjr = (Codec.recs x ts)[j]'hjs := by
          have := unhide HUK
          subst this
          exact recs_pre ts x k2 j hjt hjts
        have h2 := recs_get ts x j hjts
        rw [List.getElem?_eq_getElem hjs] at h2
        rw [h1]
        exact Option.some.inj h2
      obtain ⟨y0, y1, y2⟩ := rec_cells hrb j hjr
      rw [hsame] at y0 y1 y2
      dsimp only at y0 y1 y2
      have hnext := costs_take_succ ts j hjts
      have hcb := costs_take ts j
      have hcb2 := costs_take ts (j + 1)
      have hxt := ownsRow_cell hra (g := ga) (c := c) rfl j (.string (S (ts[j]'hjts))) (by simp [secs, List.getElem?_eq_getElem hjts])
      obtain ⟨t, ht⟩ : ∃ t, ts[j]'hjts = t := ⟨_, rfl⟩
      rw [ht] at y1 y2 hnext hxt
      have hcp := Codec.cost_pos t.length
      have htl : t.length ≤ 44 * Codec.cost t.length := Codec.cost_up t.length
      have HC := hide (fun wy => wcost_any t.length wy (by omega))
      obtain ⟨n0, hn0⟩ : ∃ n0, x + Codec.costs (ts.take j) = n0 := ⟨_, rfl⟩
      rw [hn0] at y0 y1
      rw [hn0]
      obtain ⟨cc, hcc⟩ : ∃ cc, Codec.cost t.length = cc := ⟨_, rfl⟩
      rw [hcc] at y1 hnext HC hcp
      obtain ⟨n2, hn2'⟩ : ∃ n2, n0 + cc - 1 = n2 := ⟨_, rfl⟩
      rw [hn2'] at y1
      have hbnd : n0 ≤ 1000000 := by omega
      have hbnd2 : cc ≤ 1000000 := by omega
      have hN : Hid (x + Codec.costs (ts.take (j + 1)) = n2 + 1) := by show x + Codec.costs (ts.take (j + 1)) = n2 + 1; omega
      have hbnd3 : n2 ≤ 3000000 := by omega
      have i1 : (j : Int) < (uk.length : Int) := by omega
      have i2 : (j : Int) < (ts.length : Int) := by omega
      have i3 : (0 : Int) ≤ (j : Int) := by omega
      obtain ⟨e1, e3⟩ := wr_add n0 cc hbnd hbnd2
      obtain ⟨e2, e4⟩ := wr_sub n0 cc n2 hbnd hbnd2 hcp hn2'
      obtain ⟨e5, e6, b5, e7⟩ := wr_one n2 hbnd3
      have b2 : ((n0 : Int) != (n0 : Int)) = false := by simp
      have b3 : ((n2 : Int) != (n2 : Int)) = false := by simp
      have hts1 : (S t).size = t.length := rfl
      obtain ⟨tn, htn⟩ : ∃ tn, t.length = tn := ⟨_, rfl⟩
      rw [htn] at hts1 HC
      obtain ⟨w16, hw16⟩ : ∃ w16, wr.alloc (.cells #[.int .i64 (n0 : Int), .int .i64 (n2 : Int), .string (S t)] 37) = w16 := ⟨_, rfl⟩
      obtain ⟨RB, hRB⟩ : ∃ RB, wr.heap.size = RB := ⟨_, rfl⟩
      have hb16 : Below wr.heap.size wr w16 := by rw [← hw16]; exact (Below.refl _ _).alloc (Nat.le_refl _) _
      have hbx16 : w16.heap[RB]? = some (.cells #[.int .i64 (n0 : Int), .int .i64 (n2 : Int), .string (S t)] 37 (0, 0)) := by rw [← hw16, ← hRB]; exact heap_alloc_new wr _
      have d0 := bcell hbx16 0
      have d1 := bcell hbx16 1
      have d2 := bcell hbx16 2
      simp only [List.getElem?_toArray, List.getElem?_cons_zero, List.getElem?_cons_succ] at d0 d1 d2
      have x0 := (hb16.cell (p := ⟨ga, j, none⟩) (cell_lt hxt)).trans hxt
      have HBr := hide (hbr.trans (hb16.mono hbr.size))
      clear ea1 ea2 ea3 eb1 eb2 eb3 hga hgb hra hrb hbr hjr hjs hsame hb16 hbx16 hnext hcb hcb2 hxt ht htl hn0 hcc hn2' htn
      go_wp2_with fail
      go_quiet (first | (go_at_call 21; exact Calls.quiet_of_same (unhide HC _)))
      have d1' : (w16.drewN nq).cell? ⟨RB, 1, none⟩ = some (.int .i64 (n2 : Int)) := d1
      clear x0 y0 y1 y2 d0 d1 d2 hw16 hRB e1 e2 e3 e4 b2 b3 b5 e5 e6 e7
      go_wp2_with fail
      exact ⟨⟨j + 1, by omega, by simp, by rw [unhide hN]; simp, w_below_drewN (unhide HBr) _⟩, by simp [intOf]; omega⟩
    · have i1 : ¬ (j : Int) < (uk.length : Int) := by omega
      have hju : j = k2 := by have := unhide HUKL; omega
      have hend : x + Codec.costs (ts.take j) = en3 := by rw [hju, unhide HUK]; exact unhide HEN3
      rw [hend]
      have HBF := hide ((unhide HB2).trans (((unhide HB15).trans (hbr.mono (unhide HSZ15))).mono (unhide HWB)))
      have b4 : ((en3 : Int) == (en3 : Int)) = true := by simp
      clear hju hend hbr
      go_wp2_with fail
      go_ret
      exact ⟨rfl, unhide HBF⟩
end Go.Proofs.YtajcaglbbdbibaaDoor
