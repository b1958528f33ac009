/- Texts that this proof needs, one behind the other: WResWalk, WPrefix, WBey, WBeyond. -/
import Derived.Test.YtajcaglbbdbibaaDoorBundleW7
import Derived.Test.YtajcaglbbdbibaaDoorBundleD8
import Derived.Deep.DeepCutAuto
import Derived.Deep.CutBlock
/- WalResume's walk. -/
namespace Go.Proofs.YtajcaglbbdbibaaDoor
open Go.RowKit
set_option linter.unusedVariables false
set_option maxRecDepth 100000

theorem append_step {base : Nat} {w : World} {b lb : Nat} {D : Dev} {fr ln x must : Nat} {ts : List (List UInt8)} (hp : PD fr ln x ts must D) (h : LogAt base w b lb D fr ln x ((x + Codec.costs ts : Nat) : Int)) (t : List UInt8) (hB : base ≤ w.heap.size) (ht : t.length ≤ 1000) (hl : 0 < ln) (hfl : fr + ln ≤ 24) (hx : 1 ≤ x) (hx2 : x + ln ≤ 1099511627776) :
    Calls Tryd.prog 11 #[.pointer (some ⟨lb, 0, none⟩), .string (S t)] w fun e w' => ∃ (er r0 r1 : Int) (rt : ByteArray) (ts' : List (List UInt8)) (D' : Dev), e = .returned (.tuple #[.agg #[.int .i64 r0, .int .i64 r1, .string rt], .int .i64 er]) ∧ PD fr ln x ts' must D' ∧ LogAt base w' b lb D' fr ln x ((x + Codec.costs ts' : Nat) : Int) ∧ D'.calls + Codec.costs ts = D.calls + Codec.costs ts' ∧ Below base w w' := by
  refine (append_law hp h t hB ht hl hfl hx hx2).mono ?_
  rintro e w' ⟨er, r0, r1, rt, rfl, hst, ho⟩
  have hcs : Codec.costs (ts ++ [t]) = Codec.costs ts + Codec.cost t.length := by rw [Codec.costs_append]; simp [Codec.costs]
  rcases ho with ⟨_, _, _, _, _, h1, h2⟩ | ⟨_, _, _, _, _, h2⟩
  · exact ⟨er, r0, r1, rt, ts ++ [t], _, rfl, h1, h2, by show D.calls + Codec.cost t.length + _ = _; omega, hst.below h hB⟩
  · exact ⟨er, r0, r1, rt, ts, D, rfl, hp, h2, rfl, hst.below h hB⟩
theorem begin_pd (fr ln x : Nat) (hl : 0 < ln) (hfl : fr + ln ≤ 24) : PD fr ln x [] 0 (Dev.new 24) :=
  PD.start rfl rfl rfl (by simp [Dev.new]) (Fine.new 24 (by omega)) rfl (by simp [Dev.new]) (fun a h1 h2 c hc => by rw [new_can 24 _ c hc]; exact bad_blank a)

theorem rcs_get : ∀ (a : List Codec.Rec) (k : Nat) (h : k < a.length), (rcs a)[k * 3]? = some (.int .i64 ((a[k]'h).first : Int)) ∧ (rcs a)[k * 3 + 1]? = some (.int .i64 ((a[k]'h).last : Int)) ∧ (rcs a)[k * 3 + 2]? = some (.string (S (a[k]'h).text))
  | x :: r, 0, h => by simp [rcs]
  | x :: r, k + 1, h => by
    have := rcs_get r k (by simpa using h)
    have e : (k + 1) * 3 = k * 3 + 1 + 1 + 1 := by omega
    rw [e]
    simpa [rcs] using this
theorem rec_cells {w : World} {base g n c : Nat} {l : List Codec.Rec} (h : w.ownsRow base 37 3 (.slice (some ⟨g, 0, none⟩) n c) n (rcs l)) (k : Nat) (hk : k < l.length) :
    w.cell? ⟨g, k * 3, none⟩ = some (.int .i64 ((l[k]'hk).first : Int)) ∧ w.cell? ⟨g, k * 3 + 1, none⟩ = some (.int .i64 ((l[k]'hk).last : Int)) ∧ w.cell? ⟨g, k * 3 + 2, none⟩ = some (.string (S (l[k]'hk).text)) := by
  obtain ⟨h1, h2, h3⟩ := rcs_get l k hk
  exact ⟨ownsRow_cell h rfl _ _ h1, ownsRow_cell h rfl _ _ h2, ownsRow_cell h rfl _ _ h3⟩
theorem len_costs (ts : List (List UInt8)) : ts.length ≤ Codec.costs ts := by
  induction ts with
  | nil => exact Nat.le_refl _
  | cons t r ih => have := Codec.cost_pos t.length; simp [Codec.costs]; omega
theorem recs_snoc (x : Nat) (us : List (List UInt8)) (t : List UInt8) : Codec.recs x (us ++ [t]) = Codec.recs x us ++ [⟨x + Codec.costs us, x + Codec.costs us + Codec.cost t.length - 1, t⟩] := by
  rw [Codec.recs_append]; rfl
theorem recs_pre (us : List (List UInt8)) (x k i : Nat) (h : i < (us.take k).length) (h2 : i < us.length) : (Codec.recs x (us.take k))[i]'(by rw [Codec.recs_length]; exact h) = (Codec.recs x us)[i]'(by rw [Codec.recs_length]; exact h2) := by
  have e1 := recs_get (us.take k) x i h
  have e2 := recs_get us x i h2
  have hik : i < k := by rw [List.length_take] at h; omega
  rw [List.take_take, Nat.min_eq_left (by omega), List.getElem_take] at e1
  rw [← e2] at e1
  rw [List.getElem?_eq_getElem (by rw [Codec.recs_length]; exact h), List.getElem?_eq_getElem (by rw [Codec.recs_length]; exact h2)] at e1
  exact Option.some.inj e1

theorem w_mask2 (n : Int) (k : Nat) (m : Int) (hk : k < 63) (hm : (BitVec.ofInt 64 m).toNat = 2 ^ k - 1) : bits .and .i64 n m = n % (2 ^ k : Nat) := by
  have key : (BitVec.ofInt 64 n &&& BitVec.ofInt 64 m).toNat = (n % ((2 ^ 64 : Nat) : Int)).toNat % 2 ^ k := by
    rw [BitVec.toNat_and, BitVec.toNat_ofInt, hm, Nat.and_two_pow_sub_one_eq_mod]
  show IntKind.i64.wrap ((BitVec.ofInt 64 n &&& BitVec.ofInt 64 m).toNat : Nat) = n % (2 ^ k : Nat)
  have hlt : (n % ((2 ^ 64 : Nat) : Int)).toNat % 2 ^ k < 2 ^ 63 := Nat.lt_trans (Nat.mod_lt _ (Nat.two_pow_pos k)) (Nat.pow_lt_pow_right (by omega) hk)
  rw [key, IntKind.wrap_i64]
  have hd : (2 ^ 64 : Nat) = 2 ^ k * 2 ^ (64 - k) := by rw [← Nat.pow_add]; congr 1; omega
  have h1 : (((n % ((2 ^ 64 : Nat) : Int)).toNat % 2 ^ k : Nat) : Int) = n % (2 ^ k : Nat) := by
    rw [Int.natCast_emod, Int.toNat_of_nonneg (Int.emod_nonneg _ (by simp)), hd, Int.natCast_mul, Int.emod_emod_of_dvd _ ⟨_, rfl⟩]
  rw [h1]
  have h2 : (n % (2 ^ k : Nat)) < 9223372036854775808 := by
    have : (2 : Nat) ^ 63 = 9223372036854775808 := by decide
    rw [← h1]; omega
  have h3 : 0 ≤ n % (2 ^ k : Nat) := by rw [← h1]; omega
  omega

end Go.Proofs.YtajcaglbbdbibaaDoor
/- WalPrefix's walk. -/
namespace Go.Proofs.YtajcaglbbdbibaaDoor
open Go.RowKit
set_option linter.unusedVariables false
set_option maxRecDepth 100000

theorem w_cell_one (w : World) (u : Value) (t : TypeId) (j : Nat) (x : Value) (h : [u][j]? = some x) : (w.alloc (.cells #[u] t)).cell? ((⟨w.heap.size, 0, none⟩ : Addr).add j) = some x := by
  rw [plain_add, Nat.zero_add, block_cell (heap_alloc_new w _)]
  match j, h with
  | 0, h => simpa using h
  | j + 1, h => simp at h
theorem wr_add (a c : Nat) (h : a ≤ 1000000) (h2 : c ≤ 1000000) : IntKind.i64.wrap ((a : Int) + (c : Int)) = (a : Int) + (c : Int) ∧ wrap64 ((a : Int) + (c : Int)) = (a : Int) + (c : Int) := by
  refine ⟨by rw [IntKind.wrap_i64]; omega, by unfold wrap64; omega⟩
theorem wr_sub (a c n : Nat) (h : a ≤ 1000000) (h2 : c ≤ 1000000) (h3 : 1 ≤ c) (hn : a + c - 1 = n) : IntKind.i64.wrap ((a : Int) + (c : Int) - 1) = (n : Int) ∧ (a : Int) + (c : Int) - 1 = (n : Int) := by
  refine ⟨by rw [IntKind.wrap_i64]; omega, by omega⟩
theorem wr_one (n : Nat) (h : n ≤ 3000000) : wrap64 (n : Int) = (n : Int) ∧ wrap64 ((n : Int) + 1) = (n : Int) + 1 ∧ ((n : Int) != wrap64 (n : Int)) = false ∧ IntKind.i64.wrap (n : Int) = (n : Int) := by
  have e : wrap64 (n : Int) = (n : Int) := by unfold wrap64; omega
  refine ⟨e, by unfold wrap64; omega, by rw [e]; simp, by rw [IntKind.wrap_i64]; omega⟩
/- The state of a law that appends texts to a log and keeps those that it took. -/
structure TS (B : Nat) (w2 wr : World) (b lb fr ln x : Nat) (ts : List (List UInt8)) (must : Nat) (D : Dev) (v : Value) : Prop where
  pd : PD fr ln x ts must D
  log : LogAt B wr b lb D fr ln x ((x + Codec.costs ts : Nat) : Int)
  low : Below B w2 wr
  row : wr.ownsRow B 9 1 v ts.length (secs ts)
  far : Far wr b lb v
section
variable {B : Nat} {w2 wr w' : World} {b lb fr ln x : Nat} {ts : List (List UInt8)} {must : Nat} {D : Dev} {v : Value}
theorem TS.sz (h : TS B w2 wr b lb fr ln x ts must D v) : B ≤ wr.heap.size := by have := h.log.dev.lo; have := h.log.dev.lt; omega
theorem TS.later (h : TS B w2 wr b lb fr ln x ts must D v) (hb : Below wr.heap.size wr w') : TS B w2 w' b lb fr ln x ts must D v := by
  obtain ⟨h1, h2⟩ := h.log.later hb
  obtain ⟨h3, h4⟩ := h.far.step h.row h2
  exact ⟨h.pd, h1, h.low.trans (hb.mono h.sz), h4, h3⟩
theorem TS.grown (h : TS B w2 wr b lb fr ln x ts must D v) {v' : Value} {t : List UInt8} {D' : Dev} {w5 : World} (hp : PD fr ln x (ts ++ [t]) must D') (hl : LogAt B w5 b lb D' fr ln x ((x + Codec.costs (ts ++ [t]) : Nat) : Int)) (hlow : Below B w2 w5) (hrow : w5.ownsRow B 9 1 v ts.length (secs ts)) (hfar : Far w5 b lb v)
    (hown : w'.ownsRow B 9 1 v' (ts.length + 1) (secs ts ++ [.string (S t)])) (hg : w5.grownBy w' v.ownBlock) (hf : v'.ownBlock = v.ownBlock ∨ ∀ k, v'.ownBlock = some k → w5.heap.size ≤ k) : TS B w2 w' b lb fr ln x (ts ++ [t]) must D' v' := by
  refine ⟨hp, hl.grown hg hfar, hlow.grown hg (by have := hl.dev.lo; have := hl.dev.lt; omega) (fun q hq => by obtain ⟨cur, hc, hx⟩ := ownsRow_blk hrow hq; exact hx), ?_, hfar.grown hl hg hf⟩
  have e : secs (ts ++ [t]) = secs ts ++ [.string (S t)] := by simp [secs]
  rw [e, List.length_append]
  exact hown
end

set_option maxRecDepth 100000 in
set_option maxHeartbeats 6400000 in
theorem walPrefix_walk (a0 : Int) (h0 : (Lit.int .i64 a0).wf = true) (a1 : Option Addr) (len1 cap1 : Nat) (z1 : List ByteArray) (w : World) (w1 : IsStrs w a1 len1 cap1 z1) (a2 : Option Addr) (len2 cap2 : Nat) (z2 : List ByteArray) (w2 : IsStrs w a2 len2 cap2 z2)
    (a3 : Option Addr) (len3 cap3 : Nat) (z3 : List Int) (w3 : IsInts w a3 len3 cap3 z3) :
    Calls Tryd.prog 4 #[.int .i64 a0, .slice a1 len1 cap1, .slice a2 len2 cap2, .slice a3 len3 cap3] w fun e w' => e = .returned (.bool true) ∧ Below w.heap.size w w' := by
  obtain ⟨l1, hl1, hm1, _, hr1⟩ := w1.norm
  obtain ⟨l2, hl2, hm2, _, hr2⟩ := w2.norm
  obtain ⟨l3, hl3, hm3, hc3, hr3⟩ := w3.norm
  clear w1 w2 w3 h0
  unfold maxLen at hm1 hm2 hm3
  obtain ⟨z, hze, hz2⟩ : ∃ z : Nat, bits .and .i64 a0 65535 = (z : Int) ∧ z ≤ 65535 := ⟨(a0 % 65536).toNat, by rw [w_mask2 a0 16 65535 (by omega) (by decide)]; omega, by omega⟩
  obtain ⟨x, hx⟩ : ∃ x, 1 + z = x := ⟨_, rfl⟩
  have hxe : 1 + (z : Int) = (x : Int) := by omega
  have hx1 : 1 ≤ x := by omega
  have hx2 : x ≤ 65536 := by omega
  have HAW := hide (fun w => wawake_any w)
  have HBG := hide (fun wy => begin_log 2 20 x wy (by omega) (by unfold areaE; simp [Dev.new]) (by omega) (by omega))
  unfold AV at HBG
  have HR1 := hide hr1
  have HR2 := hide hr2
  have HR3 := hide hr3
  have HL1 := hide hl1
  have HL2 := hide hl2
  have HL3 := hide hl3
  obtain ⟨i0, hi, hz0, hz1, hz2'⟩ := info_parts info_string
  clear hr1 hr2 hr3 hl1 hl2 hl3 hx
  go_enter Tryd.func4, Tryd.ntmps4
  go_wp2_with fail
  refine (unhide HAW _).mono ?_
  rintro e w1 ⟨rfl, hb1⟩
  obtain ⟨w2, hw2⟩ : ∃ w2, w1.alloc (.cells #[.int .i64 2, .int .i64 20] 25) = w2 := ⟨_, rfl⟩
  obtain ⟨A, hA⟩ : ∃ A, w1.heap.size = A := ⟨_, rfl⟩
  have hb12 : Below w.heap.size w w2 := by rw [← hw2]; exact hb1.alloc hb1.size _
  have hx2' : w2.heap[A]? = some (.cells #[.int .i64 2, .int .i64 20] 25 (0, 0)) := by rw [← hw2, ← hA]; exact heap_alloc_new w1 _
  have p0 := bcell hx2' 0
  have p1 := bcell hx2' 1
  simp only [List.getElem?_toArray, List.getElem?_cons_zero, List.getElem?_cons_succ] at p0 p1
  have HX2 := hide hx2'
  have HB2 := hide hb12
  clear hb1 hx2' hb12 HAW
  go_wp2_with fail
  refine (unhide HBG _).mono ?_
  rintro e w3 ⟨b, lb, rfl, hl3, hb3⟩
  obtain ⟨B, hB⟩ : ∃ B, w2.heap.size = B := ⟨_, rfl⟩
  rw [hB] at hl3 hb3
  have HAB : Hid (A < B) := by rw [← hB]; exact block_lt (unhide HX2)
  have HWB : Hid (w.heap.size ≤ B) := by rw [← hB]; exact (unhide HB2).size
  have HTS : Hid (TS B w2 w3 b lb 2 20 x [] 0 (Dev.new 24) (.slice none 0 0)) := ⟨begin_pd 2 20 x (by omega) (by omega), hl3, hb3, World.ownsRow_nil _ _ _ _, Far.nil⟩
  have HNX := hide (next_any hl3.log)
  clear hl3 hb3 HBG hw2 hA hB p0 p1
  go_wp2_with fail
  refine (unhide HNX).mono ?_
  rintro e w3 ⟨rfl, rfl⟩
  clear HNX
  go_upto_block 0 with fail
  go_cut [14, 15, 16, 17, 18] (fun s14 _ _ _ _ wx => ∃ (ts : List (List UInt8)) (D : Dev) (ao : Option Addr) (c : Nat), s14 = .slice ao ts.length c ∧ TS B w2 wx b lb 2 20 x ts 0 D (.slice ao ts.length c) ∧ D.calls ≤ Codec.costs ts)
  case first =>
    go_wp2_with fail
    go_loopw [14, 15, 16, 17, 18] (fun v i _ _ _ wr => ∃ j : Nat, j ≤ len1 ∧ j ≤ 5 ∧ i = .int .i64 j ∧ ∃ (ts : List (List UInt8)) (D : Dev) (ao : Option Addr) (c : Nat), v = .slice ao ts.length c ∧ TS B w2 wr b lb 2 20 x ts 0 D (.slice ao ts.length c) ∧ D.calls ≤ Codec.costs ts) (fun _ i _ _ _ _ => 5 - (intOf i).toNat)
    case atStart => exact ⟨0, Nat.zero_le _, Nat.zero_le _, rfl, [], Dev.new 24, none, 0, rfl, unhide HTS, Nat.le_refl _⟩
    case round =>
      obtain ⟨j, hj0, hj5, rfl, ts, D, ao, c, rfl, hts, hcal⟩ := hrel
      clear HTS
      have hcst := hts.pd.cst
      have hus20 := len_costs ts
      have HTSj := hide hts
      have hlow := hts.low
      clear hts
      by_cases hlt0 : j < len1
      · have i1 : (j : Int) < (len1 : Int) := by omega
        by_cases hlt5 : j < 5
        · have hjL : j < l1.length := by have := unhide HL1; omega
          obtain ⟨bk, off, rfl, hc0⟩ := (unhide HR1).later ((unhide HB2).trans (hlow.mono (unhide HWB))) j hjL
          have i2 : (j : Int) < 5 := by omega
          have i3 : (0 : Int) ≤ (j : Int) := by omega
          generalize l1[j]'hjL = t at *
          have HCUT := hide (fun wy => dcut_any t 100 wy)
          obtain ⟨u, hu⟩ : ∃ u, t.take 100 = u := ⟨_, rfl⟩
          have hu100 : u.length ≤ 100 := by rw [← hu, List.length_take]; omega
          rw [hu] at HCUT
          have HAPP := hide (append_law (unhide HTSj).pd (unhide HTSj).log u (unhide HTSj).sz (by omega) (by omega) (by omega) (by omega) (by omega))
          clear hu hlow
          go_wp2_with fail
          refine (unhide HCUT _).mono ?_
          rintro e w4 ⟨rfl, rfl⟩
          clear HCUT hc0
          go_wp2_with fail
          refine (unhide HAPP).mono ?_
          rintro e w5 ⟨er, q0, q1, qt, rfl, hst5, hor⟩
          have hb5 := hst5.below (unhide HTSj).log (unhide HTSj).sz
          obtain ⟨hfar5, hrow5⟩ := (unhide HTSj).far.step (unhide HTSj).row hst5
          have hlow5 := (unhide HTSj).low.trans hb5
          have HSZ5 := hide (Nat.le_trans (unhide HTSj).sz hst5.size)
          clear hb5 hst5 HAPP
          rcases hor with ⟨rfl, hfit, rfl, rfl, rfl, hp5, hl5⟩ | ⟨rfl, hnf, rfl, rfl, rfl, hl5⟩
          · obtain ⟨n1, hn1⟩ : ∃ n1, x + Codec.costs ts = n1 := ⟨_, rfl⟩
            obtain ⟨n2, hn2⟩ : ∃ n2, x + Codec.costs ts + Codec.cost u.length - 1 = n2 := ⟨_, rfl⟩
            rw [hn2, hn1]
            obtain ⟨w6, hw6⟩ : ∃ w6, w5.alloc (.cells #[.int .i64 (n1 : Int), .int .i64 (n2 : Int), .string (S u)] 37) = w6 := ⟨_, rfl⟩
            have hb56 : Below w5.heap.size w5 w6 := by rw [← hw6]; exact (Below.refl _ _).alloc (Nat.le_refl _) _
            obtain ⟨hl6, hs6⟩ := hl5.later hb56
            obtain ⟨hfar6, hrow6⟩ := hfar5.step hrow5 hs6
            have hbA : Below w6.heap.size w6 (w6.alloc (.cells #[.string (S u)] 9)) := (Below.refl _ _).alloc (Nat.le_refl _) _
            obtain ⟨hlA, hsA⟩ := hl6.later hbA
            obtain ⟨hfarA, hrowA⟩ := hfar6.step hrow6 hsA
            have hlowA : Below B w2 (w6.alloc (.cells #[.string (S u)] 9)) := (hlow5.trans (hb56.mono (unhide HSZ5))).trans (hbA.mono (by have := unhide HSZ5; have := hb56.size; omega))
            have hcs : Codec.costs (ts ++ [u]) = Codec.costs ts + Codec.cost u.length := by rw [Codec.costs_append]; simp [Codec.costs]
            have HROWA := hide hrowA
            have HALL := hide (And.intro hp5 (And.intro hlA (And.intro hlowA hfarA)))
            have HCAL : Hid ((Dev.put 2 20 u (x + Codec.costs ts) D).calls ≤ Codec.costs (ts ++ [u])) := by rw [hcs]; show D.calls + Codec.cost u.length ≤ _; omega
            have HSZA : Hid (B ≤ w6.heap.size) := Nat.le_trans (unhide HSZ5) hb56.size
            clear hp5 hl5 hl6 hs6 hfar5 hrow5 hfar6 hrow6 hb56 hbA hlA hsA hfarA hrowA hlow5 hlowA hcs hn1 hn2
            go_wp2_with (first | (at_builtin; refine wpList_append_fresh rfl _ _ 50 rfl B 9 i0 (.string ⟨#[]⟩) 1 16 under_strings hi hz0 hz1 hz2' rfl (by decide) _ _ _ rfl (unhide HROWA) ⟨w6.heap.size, 0, none⟩ 1 1 [.string (S u)] rfl rfl (w_cell_one _ _ _) ?c2 ?c3 ?c4 ?c5 ?_) | fail)
            case c2 => intro y hy; simp at hy; subst hy; rfl
            case c3 => unfold maxLen; omega
            case c4 => omega
            case c5 => have := unhide HSZA; simp; omega
            intro v' w7 hown' hgrow hfresh
            obtain ⟨k1, k2, k3, k4⟩ := unhide HALL
            have hts7 := (unhide HTSj).grown k1 k2 k3 (unhide HROWA) k4 hown' hgrow (by simpa using hfresh)
            obtain ⟨ao7, c7, rfl, _⟩ := ownsRow_slice hown'
            have HE : Hid (∃ (ts' : List (List UInt8)) (D' : Dev) (ao' : Option Addr) (c' : Nat), Value.slice ao7 (ts.length + 1) c7 = .slice ao' ts'.length c' ∧ TS B w2 w7 b lb 2 20 x ts' 0 D' (.slice ao' ts'.length c') ∧ D'.calls ≤ Codec.costs ts') := by
              have e1 : (ts ++ [u]).length = ts.length + 1 := by simp
              exact ⟨ts ++ [u], _, ao7, c7, by rw [e1], by rw [e1]; exact hts7, unhide HCAL⟩
            clear hown' hgrow hfresh k1 k2 k3 k4 hts7
            go_wp2_with fail
            exact ⟨⟨j + 1, by omega, by omega, by simp, unhide HE⟩, by simp [intOf]; omega⟩
          · have HTS5 : Hid (TS B w2 w5 b lb 2 20 x ts 0 D (.slice ao ts.length c)) := ⟨(unhide HTSj).pd, hl5, hlow5, hrow5, hfar5⟩
            clear hl5 hlow5 hrow5 hfar5
            go_wp2_with fail
            exact ⟨⟨j + 1, by omega, by omega, by simp, ts, D, ao, c, rfl, (unhide HTS5).later ((Below.refl _ _).alloc (Nat.le_refl _) _), hcal⟩, by simp [intOf]; omega⟩
        · have i2 : ¬ (j : Int) < 5 := by omega
          go_wp2_with fail
          go_meet
          case rel => exact ⟨ts, D, ao, c, rfl, unhide HTSj, hcal⟩
      · have i1 : ¬ (j : Int) < (len1 : Int) := by omega
        go_wp2_with fail
        go_meet
        case rel => exact ⟨ts, D, ao, c, rfl, unhide HTSj, hcal⟩
  case rest =>
  obtain ⟨ts0, D0, ao0, c0, rfl, hts, hcal⟩ := hcut
  have hcst := hts.pd.cst
  obtain ⟨hfl, _, hfc⟩ : PD 2 20 x ts0 ts0.length D0.flush ∧ D0.flushE = 0 ∧ D0.flush.calls = D0.calls + 1 := by
    rcases hts.pd.flush (by omega) (by omega) with h | h
    · exact h
    · omega
  have HFO := hide (force_any hts.log hts.pd.fine.ok (by rw [hts.pd.lf]; omega) (by omega) (by have := hts.pd.wl; omega) (by rw [hts.pd.len]; omega))
  generalize D0.flushE = E at *
  have HTSc := hide hts
  have HFL := hide hfl
  have hcal0 : D0.flush.calls ≤ Codec.costs ts0 + 1 := by omega
  generalize D0.flush = D1 at *
  clear hts hfl hfc hcal HTS
  go_wp2_with fail
  refine (unhide HFO).mono ?_
  rintro e w4 ⟨rfl, hl4, hs4⟩
  have HTS2 : Hid (TS B w2 w4 b lb 2 20 x ts0 ts0.length D1 (.slice ao0 ts0.length c0)) := by
    obtain ⟨h3, h4⟩ := (unhide HTSc).far.step (unhide HTSc).row hs4
    exact ⟨unhide HFL, hl4, (unhide HTSc).low.trans (hs4.below (unhide HTSc).log (unhide HTSc).sz), h4, h3⟩
  clear hl4 hs4 HFO HTSc HFL
  go_upto_block 2 with fail
  go_cut [14, 20, 21, 22, 23] (fun s14 _ _ _ _ wx => ∃ (ts : List (List UInt8)) (D : Dev) (ao : Option Addr) (c : Nat), s14 = .slice ao ts.length c ∧ TS B w2 wx b lb 2 20 x ts ts0.length D (.slice ao ts.length c) ∧ D.calls ≤ Codec.costs ts + 1)
  case first =>
    go_wp2_with fail
    go_loopw [14, 20, 21, 22, 23] (fun v i _ _ _ wr => ∃ j : Nat, j ≤ len2 ∧ j ≤ 6 ∧ i = .int .i64 j ∧ ∃ (ts : List (List UInt8)) (D : Dev) (ao : Option Addr) (c : Nat), v = .slice ao ts.length c ∧ TS B w2 wr b lb 2 20 x ts ts0.length D (.slice ao ts.length c) ∧ D.calls ≤ Codec.costs ts + 1) (fun _ i _ _ _ _ => 6 - (intOf i).toNat)
    case atStart => exact ⟨0, Nat.zero_le _, Nat.zero_le _, rfl, ts0, D1, ao0, c0, rfl, unhide HTS2, hcal0⟩
    case round =>
      obtain ⟨j, hj0, hj6, rfl, ts, D, ao, c, rfl, hts, hcal⟩ := hrel
      clear HTS2
      have hcst := hts.pd.cst
      have hus20 := len_costs ts
      have HTSj := hide hts
      have hlow := hts.low
      clear hts
      by_cases hlt0 : j < len2
      · have i1 : (j : Int) < (len2 : Int) := by omega
        by_cases hlt6 : j < 6
        · have hjL : j < l2.length := by have := unhide HL2; omega
          obtain ⟨bk, off, rfl, hc0⟩ := (unhide HR2).later ((unhide HB2).trans (hlow.mono (unhide HWB))) j hjL
          have i2 : (j : Int) < 6 := by omega
          have i3 : (0 : Int) ≤ (j : Int) := by omega
          generalize l2[j]'hjL = t at *
          have HCUT := hide (fun wy => dcut_any t 100 wy)
          obtain ⟨u, hu⟩ : ∃ u, t.take 100 = u := ⟨_, rfl⟩
          have hu100 : u.length ≤ 100 := by rw [← hu, List.length_take]; omega
          rw [hu] at HCUT
          have HAPP := hide (append_law (unhide HTSj).pd (unhide HTSj).log u (unhide HTSj).sz (by omega) (by omega) (by omega) (by omega) (by omega))
          clear hu hlow
          go_wp2_with fail
          refine (unhide HCUT _).mono ?_
          rintro e w4 ⟨rfl, rfl⟩
          clear HCUT hc0
          go_wp2_with fail
          refine (unhide HAPP).mono ?_
          rintro e w5 ⟨er, q0, q1, qt, rfl, hst5, hor⟩
          have hb5 := hst5.below (unhide HTSj).log (unhide HTSj).sz
          obtain ⟨hfar5, hrow5⟩ := (unhide HTSj).far.step (unhide HTSj).row hst5
          have hlow5 := (unhide HTSj).low.trans hb5
          have HSZ5 := hide (Nat.le_trans (unhide HTSj).sz hst5.size)
          clear hb5 hst5 HAPP
          rcases hor with ⟨rfl, hfit, rfl, rfl, rfl, hp5, hl5⟩ | ⟨rfl, hnf, rfl, rfl, rfl, hl5⟩
          · obtain ⟨n1, hn1⟩ : ∃ n1, x + Codec.costs ts = n1 := ⟨_, rfl⟩
            obtain ⟨n2, hn2⟩ : ∃ n2, x + Codec.costs ts + Codec.cost u.length - 1 = n2 := ⟨_, rfl⟩
            rw [hn2, hn1]
            obtain ⟨w6, hw6⟩ : ∃ w6, w5.alloc (.cells #[.int .i64 (n1 : Int), .int .i64 (n2 : Int), .string (S u)] 37) = w6 := ⟨_, rfl⟩
            have hb56 : Below w5.heap.size w5 w6 := by rw [← hw6]; exact (Below.refl _ _).alloc (Nat.le_refl _) _
            obtain ⟨hl6, hs6⟩ := hl5.later hb56
            obtain ⟨hfar6, hrow6⟩ := hfar5.step hrow5 hs6
            have hbA : Below w6.heap.size w6 (w6.alloc (.cells #[.string (S u)] 9)) := (Below.refl _ _).alloc (Nat.le_refl _) _
            obtain ⟨hlA, hsA⟩ := hl6.later hbA
            obtain ⟨hfarA, hrowA⟩ := hfar6.step hrow6 hsA
            have hlowA : Below B w2 (w6.alloc (.cells #[.string (S u)] 9)) := (hlow5.trans (hb56.mono (unhide HSZ5))).trans (hbA.mono (by have := unhide HSZ5; have := hb56.size; omega))
            have hcs : Codec.costs (ts ++ [u]) = Codec.costs ts + Codec.cost u.length := by rw [Codec.costs_append]; simp [Codec.costs]
            have HROWA := hide hrowA
            have HALL := hide (And.intro hp5 (And.intro hlA (And.intro hlowA hfarA)))
            have HCAL : Hid ((Dev.put 2 20 u (x + Codec.costs ts) D).calls ≤ Codec.costs (ts ++ [u]) + 1) := by rw [hcs]; show D.calls + Codec.cost u.length ≤ _; omega
            have HSZA : Hid (B ≤ w6.heap.size) := Nat.le_trans (unhide HSZ5) hb56.size
            clear hp5 hl5 hl6 hs6 hfar5 hrow5 hfar6 hrow6 hb56 hbA hlA hsA hfarA hrowA hlow5 hlowA hcs hn1 hn2
            go_wp2_with (first | (at_builtin; refine wpList_append_fresh rfl _ _ 50 rfl B 9 i0 (.string ⟨#[]⟩) 1 16 under_strings hi hz0 hz1 hz2' rfl (by decide) _ _ _ rfl (unhide HROWA) ⟨w6.heap.size, 0, none⟩ 1 1 [.string (S u)] rfl rfl (w_cell_one _ _ _) ?c2 ?c3 ?c4 ?c5 ?_) | fail)
            case c2 => intro y hy; simp at hy; subst hy; rfl
            case c3 => unfold maxLen; omega
            case c4 => omega
            case c5 => have := unhide HSZA; simp; omega
            intro v' w7 hown' hgrow hfresh
            obtain ⟨k1, k2, k3, k4⟩ := unhide HALL
            have hts7 := (unhide HTSj).grown k1 k2 k3 (unhide HROWA) k4 hown' hgrow (by simpa using hfresh)
            obtain ⟨ao7, c7, rfl, _⟩ := ownsRow_slice hown'
            have HE : Hid (∃ (ts' : List (List UInt8)) (D' : Dev) (ao' : Option Addr) (c' : Nat), Value.slice ao7 (ts.length + 1) c7 = .slice ao' ts'.length c' ∧ TS B w2 w7 b lb 2 20 x ts' ts0.length D' (.slice ao' ts'.length c') ∧ D'.calls ≤ Codec.costs ts' + 1) := by
              have e1 : (ts ++ [u]).length = ts.length + 1 := by simp
              exact ⟨ts ++ [u], _, ao7, c7, by rw [e1], by rw [e1]; exact hts7, unhide HCAL⟩
            clear hown' hgrow hfresh k1 k2 k3 k4 hts7
            go_wp2_with fail
            exact ⟨⟨j + 1, by omega, by omega, by simp, unhide HE⟩, by simp [intOf]; omega⟩
          · have HTS5 : Hid (TS B w2 w5 b lb 2 20 x ts ts0.length D (.slice ao ts.length c)) := ⟨(unhide HTSj).pd, hl5, hlow5, hrow5, hfar5⟩
            clear hl5 hlow5 hrow5 hfar5
            go_wp2_with fail
            exact ⟨⟨j + 1, by omega, by omega, by simp, ts, D, ao, c, rfl, (unhide HTS5).later ((Below.refl _ _).alloc (Nat.le_refl _) _), hcal⟩, by simp [intOf]; omega⟩
        · have i2 : ¬ (j : Int) < 6 := by omega
          go_wp2_with fail
          go_meet
          case rel => exact ⟨ts, D, ao, c, rfl, unhide HTSj, hcal⟩
      · have i1 : ¬ (j : Int) < (len2 : Int) := by omega
        go_wp2_with fail
        go_meet
        case rel => exact ⟨ts, D, ao, c, rfl, unhide HTSj, hcal⟩
  case rest =>
  obtain ⟨ts, D, ao, c, rfl, hts, hcal⟩ := hcut
  have hcst2 := hts.pd.cst
  have hus20 := len_costs ts
  have HTSd := hide hts
  have hms := hts.pd.ms
  obtain ⟨kl, hkl⟩ : ∃ kl, l3.take 30 = kl := ⟨_, rfl⟩
  have HKL30 : Hid (kl.length ≤ 30) := by rw [← hkl]; show (l3.take 30).length ≤ 30; rw [List.length_take]; omega
  have HKB : Hid (∀ u, Below w.heap.size w u → (30 < len3 → NumRow u (.slice a3 30 cap3) kl) ∧ (¬ 30 < len3 → NumRow u (.slice a3 len3 cap3) kl)) := fun u hu => by
    have hlen : l3.length = len3 := unhide HL3
    refine ⟨fun h30 => ?_, fun h30 => ?_⟩
    · obtain ⟨ao', c', e, hrow⟩ := (unhide HR3).later hu
      refine ⟨a3, cap3, ?_, fun j hj => ?_⟩
      · rw [← hkl, List.length_take, hlen, Nat.min_eq_left (by omega)]
      · have hj2 : j < l3.length := by rw [← hkl, List.length_take] at hj; omega
        injection e with e1 e2 e3
        subst e1
        obtain ⟨bk, off, h1, h2⟩ := hrow j hj2
        refine ⟨bk, off, h1, ?_⟩
        rw [h2]
        congr 2
        subst hkl
        simp
    · have e : kl = l3 := by rw [← hkl]; exact List.take_of_length_le (by omega)
      rw [e]
      exact (unhide HR3).later hu
  clear hkl hts HTS2
  go_upto_if 106 with fail
  go_cut [3] (fun s3 wx => ∃ (kn kc : Nat), s3 = .slice a3 kn kc ∧ wx = wc ∧ (∀ u, Below w.heap.size w u → NumRow u (.slice a3 kn kc) kl))
  case first =>
    by_cases h30 : 30 < len3
    · have h30i : (30 : Int) < (len3 : Int) := by omega
      have h30c : (30 : Int) ≤ (cap3 : Int) := by omega
      go_wp2_with fail
      go_meet
      case rel => exact ⟨30, cap3, rfl, rfl, fun u hu => (unhide HKB u hu).1 h30⟩
    · have h30i : ¬ (30 : Int) < (len3 : Int) := by omega
      go_wp2_with fail
      go_meet
      case rel => exact ⟨len3, cap3, rfl, rfl, fun u hu => (unhide HKB u hu).2 h30⟩
  case rest =>
  obtain ⟨kn, kc, rfl, rfl, hk⟩ := hcut
  have hts := unhide HTSd
  obtain ⟨k2, hmk2, hk2, hscan2, _⟩ := hts.pd.found (by omega) (by omega) (by omega) (by omega) (D.crash kl) (by show (lay _ _).length = 24; rw [lay_length]; exact hts.pd.len) (crash_can D kl)
  have hbwW := (unhide HB2).trans (hts.low.mono (unhide HWB))
  have HCR2 := hide (crash_any hts.log.dev hts.pd.fine.ok _ kl (hk _ hbwW) (by have := hts.pd.wl; omega) (by rw [hts.pd.len]; omega) (by have := unhide HKL30; omega))
  have hF2 := hts.pd.fine.crash kl
  have hL2 : (D.crash kl).L.length = 24 := by show (lay _ _).length = 24; rw [lay_length]; exact hts.pd.len
  have HSC2 := hide (fun wy (hd : DevAt B wy b (D.crash kl)) => scan_ok hd 2 20 x (by omega) (by rw [hL2]; omega) (by rw [hL2]; omega) rfl hF2.cur (by omega) (by simp [Dev.crash]))
  rw [hscan2] at HSC2
  generalize D.crash kl = D5 at *
  obtain ⟨uk, huk⟩ : ∃ uk, ts.take k2 = uk := ⟨_, rfl⟩
  have hukl : uk.length = k2 := by rw [← huk, List.length_take]; omega
  rw [huk] at HSC2
  have hn1 : ¬ (uk.length : Int) < (ts0.length : Int) := by omega
  have hn2 : ¬ (ts.length : Int) < (uk.length : Int) := by omega
  have hukus : uk.length ≤ ts.length := by omega
  have HUK := hide huk
  have HUKL := hide hukl
  obtain ⟨en3, hen3⟩ : ∃ en3, x + Codec.costs uk = en3 := ⟨_, rfl⟩
  rw [hen3] at HSC2
  have HEN3 := hide hen3
  unfold AV at HSC2
  clear hscan2 huk hukl hen3 hts hbwW hF2 hL2 hmk2 hk2 HKB hk hms
  go_wp2_with fail
  refine (unhide HCR2).mono ?_
  rintro e w14 ⟨rfl, hd4, hs4⟩
  have hb4 := hs4.below (unhide HTSd).log.dev (unhide HTSd).sz
  have HB4 := hide ((unhide HTSd).low.trans hb4)
  have hx4 := ((unhide HB4).block A (unhide HAB)).trans (unhide HX2)
  have p0 := bcell hx4 0
  have p1 := bcell hx4 1
  simp only [List.getElem?_toArray, List.getElem?_cons_zero, List.getElem?_cons_succ] at p0 p1
  have HSC4 := hide (unhide HSC2 w14 hd4)
  have HSZ4 := hide (Nat.le_trans (unhide HTSd).sz hs4.size)
  have hrow4 := (unhide HTSd).far.step (unhide HTSd).row (LStep.of hs4)
  have HROW4 := hide hrow4.2
  clear hd4 hs4 hb4 hx4 hrow4 HCR2 HSC2 HTSd
  go_wp2_with fail
  refine (unhide HSC4).mono ?_
  rintro e w15 ⟨v28, rfl, ho5, hb5⟩
  obtain ⟨ao8, c8, rfl, _⟩ := ownsRow_slice ho5
  rw [Codec.recs_length] at ho5
  rw [Codec.recs_length]
  have HO15 := hide ho5
  have HROW15 := hide (ownsRow_later (unhide HROW4) hb5)
  have HB15 := hide ((unhide HB4).trans (hb5.mono (unhide HSZ4)))
  have HSZ15 := hide (Nat.le_trans (unhide HSZ4) hb5.size)
  clear ho5 hb5 HSC4 HB4 HSZ4 HROW4 p0 p1
  go_wp2_with fail
  go_loopw [138, 28, 29, 27] (fun i _ _ at' wr => ∃ j : Nat, j ≤ uk.length ∧ i = .int .i64 j ∧ at' = .int .i64 ((x + Codec.costs (ts.take j) : Nat) : Int) ∧ Below w15.heap.size w15 wr) (fun i _ _ _ _ => uk.length - (intOf i).toNat)
  case atStart => exact ⟨0, Nat.zero_le _, rfl, by simp [Codec.costs], Below.refl _ _⟩
  case round =>
    obtain ⟨j, hj, rfl, rfl, hbr⟩ := hrel
    by_cases hjt : j < uk.length
    · have hra := ownsRow_later (unhide HROW15) hbr
      have hrb := ownsRow_later (unhide HO15) hbr
      obtain ⟨_, _, ea, hga⟩ := ownsRow_slice hra
      obtain ⟨_, _, eb, hgb⟩ := ownsRow_slice hrb
      injection ea with ea1 ea2 ea3
      injection eb with eb1 eb2 eb3
      obtain ⟨ga, hga'⟩ := hga (by omega)
      obtain ⟨gb, hgb'⟩ := hgb (by omega)
      rw [← ea1] at hga'
      rw [← eb1] at hgb'
      subst hga' hgb'
      have hjts : j < ts.length := by omega
      have hjr : j < (Codec.recs x uk).length := by rw [Codec.recs_length]; exact hjt
      have hjs : j < (Codec.recs x ts).length := by rw [Codec.recs_length]; omega
      have hsame : (Codec.recs x uk)[j]'hjr = ⟨x + Codec.costs (ts.take j), x + Codec.costs (ts.take j) + Codec.cost (ts[j]'hjts).length - 1, ts[j]'hjts⟩ := by
        have h1 : (Codec.recs x uk)[j]'hjr = (Codec.recs x ts)[j]'hjs := by
          have := unhide HUK
          subst this
          exact recs_pre ts x k2 j hjt hjts
        have h2 := recs_get ts x j hjts
        rw [List.getElem?_eq_getElem hjs] at h2
        rw [h1]
        exact Option.some.inj h2
      obtain ⟨y0, y1, y2⟩ := rec_cells hrb j hjr
      rw [hsame] at y0 y1 y2
      dsimp only at y0 y1 y2
      have hnext := costs_take_succ ts j hjts
      have hcb := costs_take ts j
      have hcb2 := costs_take ts (j + 1)
      have hxt := ownsRow_cell hra (g := ga) (c := c) rfl j (.string (S (ts[j]'hjts))) (by simp [secs, List.getElem?_eq_getElem hjts])
      obtain ⟨t, ht⟩ : ∃ t, ts[j]'hjts = t := ⟨_, rfl⟩
      rw [ht] at y1 y2 hnext hxt
      have hcp := Codec.cost_pos t.length
      have htl : t.length ≤ 44 * Codec.cost t.length := Codec.cost_up t.length
      have HC := hide (fun wy => wcost_any t.length wy (by omega))
      obtain ⟨n0, hn0⟩ : ∃ n0, x + Codec.costs (ts.take j) = n0 := ⟨_, rfl⟩
      rw [hn0] at y0 y1
      rw [hn0]
      obtain ⟨cc, hcc⟩ : ∃ cc, Codec.cost t.length = cc := ⟨_, rfl⟩
      rw [hcc] at y1 hnext HC hcp
      obtain ⟨n2, hn2'⟩ : ∃ n2, n0 + cc - 1 = n2 := ⟨_, rfl⟩
      rw [hn2'] at y1
      have hbnd : n0 ≤ 1000000 := by omega
      have hbnd2 : cc ≤ 1000000 := by omega
      have hN : Hid (x + Codec.costs (ts.take (j + 1)) = n2 + 1) := by show x + Codec.costs (ts.take (j + 1)) = n2 + 1; omega
      have hbnd3 : n2 ≤ 3000000 := by omega
      have i1 : (j : Int) < (uk.length : Int) := by omega
      have i2 : (j : Int) < (ts.length : Int) := by omega
      have i3 : (0 : Int) ≤ (j : Int) := by omega
      obtain ⟨e1, e3⟩ := wr_add n0 cc hbnd hbnd2
      obtain ⟨e2, e4⟩ := wr_sub n0 cc n2 hbnd hbnd2 hcp hn2'
      obtain ⟨e5, e6, b5, e7⟩ := wr_one n2 hbnd3
      have b2 : ((n0 : Int) != (n0 : Int)) = false := by simp
      have b3 : ((n2 : Int) != (n2 : Int)) = false := by simp
      have hts1 : (S t).size = t.length := rfl
      obtain ⟨tn, htn⟩ : ∃ tn, t.length = tn := ⟨_, rfl⟩
      rw [htn] at hts1 HC
      obtain ⟨w16, hw16⟩ : ∃ w16, wr.alloc (.cells #[.int .i64 (n0 : Int), .int .i64 (n2 : Int), .string (S t)] 37) = w16 := ⟨_, rfl⟩
      obtain ⟨RB, hRB⟩ : ∃ RB, wr.heap.size = RB := ⟨_, rfl⟩
      have hb16 : Below wr.heap.size wr w16 := by rw [← hw16]; exact (Below.refl _ _).alloc (Nat.le_refl _) _
      have hbx16 : w16.heap[RB]? = some (.cells #[.int .i64 (n0 : Int), .int .i64 (n2 : Int), .string (S t)] 37 (0, 0)) := by rw [← hw16, ← hRB]; exact heap_alloc_new wr _
      have d0 := bcell hbx16 0
      have d1 := bcell hbx16 1
      have d2 := bcell hbx16 2
      simp only [List.getElem?_toArray, List.getElem?_cons_zero, List.getElem?_cons_succ] at d0 d1 d2
      have x0 := (hb16.cell (p := ⟨ga, j, none⟩) (cell_lt hxt)).trans hxt
      have HBr := hide (hbr.trans (hb16.mono hbr.size))
      clear ea1 ea2 ea3 eb1 eb2 eb3 hga hgb hra hrb hbr hjr hjs hsame hb16 hbx16 hnext hcb hcb2 hxt ht htl hn0 hcc hn2' htn
      go_wp2_with fail
      go_quiet (first | (go_at_call 21; exact Calls.quiet_of_same (unhide HC _)))
      have d1' : (w16.drewN nq).cell? ⟨RB, 1, none⟩ = some (.int .i64 (n2 : Int)) := d1
      clear x0 y0 y1 y2 d0 d1 d2 hw16 hRB e1 e2 e3 e4 b2 b3 b5 e5 e6 e7
      go_wp2_with fail
      exact ⟨⟨j + 1, by omega, by simp, by rw [unhide hN]; simp, w_below_drewN (unhide HBr) _⟩, by simp [intOf]; omega⟩
    · have i1 : ¬ (j : Int) < (uk.length : Int) := by omega
      have hju : j = k2 := by have := unhide HUKL; omega
      have hend : x + Codec.costs (ts.take j) = en3 := by rw [hju, unhide HUK]; exact unhide HEN3
      rw [hend]
      have HBF := hide ((unhide HB2).trans (((unhide HB15).trans (hbr.mono (unhide HSZ15))).mono (unhide HWB)))
      have b4 : ((en3 : Int) == (en3 : Int)) = true := by simp
      clear hju hend hbr
      go_wp2_with fail
      go_ret
      exact ⟨rfl, unhide HBF⟩
end Go.Proofs.YtajcaglbbdbibaaDoor
/- A log that goes round: what stands of it is older than its next stamp. -/
namespace Go.Proofs.YtajcaglbbdbibaaDoor
open Go.RowKit
set_option linter.unusedVariables false
set_option maxRecDepth 100000

structure OD (N m : Nat) (D : Dev) : Prop where
  dn : D.down = false
  ar : D.armed = false
  lf : D.left = 0
  len : D.L.length = 24
  fine : Fine D
  wl : D.W.length ≤ m
  cl : D.calls ≤ m
  old : ∀ k c, can D k c → ∀ s, vw c = some s → s.stamp < N
section
variable {N m : Nat} {D : Dev}
theorem OD.new (N : Nat) : OD N 0 (Dev.new 24) :=
  ⟨rfl, rfl, rfl, by simp [Dev.new], Fine.new 24 (by omega), Nat.le_refl _, Nat.le_refl _, fun k c hc s hs => by rw [new_can 24 k c hc, vw_blank] at hs; cases hs⟩
theorem OD.put (h : OD N m D) (fr ln : Nat) (t : List UInt8) (hl : 0 < ln) (hfl : fr + ln ≤ 24) (hN : 1 ≤ N) (hN2 : N + Codec.cost t.length ≤ 1099511627776) :
    OD (N + Codec.cost t.length) (m + Codec.cost t.length) (Dev.put fr ln t N D) ∧ Dev.puts fr ln t N (Codec.cost t.length) 0 D = (Dev.put fr ln t N D, 0) := by
  refine ⟨⟨h.dn, h.ar, h.lf, h.len, h.fine.writes _ (wlist_fine fr ln t _ _ 0 _ hl (by rw [h.len]; exact hfl) (by omega)) _ rfl rfl, ?_, ?_, ?_⟩, puts_on fr ln t _ hl _ 0 D h.dn h.ar (by rw [h.len]; exact hfl) (by omega)⟩
  · show (D.W ++ wlist fr ln t N (Codec.cost t.length) 0).length ≤ _
    rw [List.length_append, wlist_length]; have := h.wl; omega
  · show D.calls + Codec.cost t.length ≤ _
    have := h.cl; omega
  · intro k c hc s hs
    have hc2 : can D k c ∨ (k, c) ∈ wlist fr ln t N (Codec.cost t.length) 0 := by
      rcases hc with hc | hc
      · exact Or.inl (Or.inl hc)
      · rcases List.mem_append.1 hc with hc | hc
        · exact Or.inl (Or.inr hc)
        · exact Or.inr hc
    rcases hc2 with hc | hc
    · have := h.old k c hc s hs; omega
    · obtain ⟨i, h1, h2, h3, h4⟩ := mem_wlist hc
      rw [h4, vw_sec t N i (by omega) (by omega)] at hs
      cases hs
      show N + i < _
      omega
theorem OD.crash (h : OD N m D) (keep : List Int) : OD N m (D.crash keep) :=
  ⟨rfl, rfl, rfl, by show (lay _ _).length = 24; rw [lay_length]; exact h.len, h.fine.crash keep, Nat.zero_le _, h.cl, fun k c hc => h.old k c (crash_can D keep k c hc)⟩
theorem OD.start (h : OD N m D) (hW : D.W = []) (hm : m ≤ 1000) (fr ln x : Nat) (hx : N ≤ x) : PD fr ln x [] 0 D :=
  PD.start h.dn h.ar h.lf h.len h.fine hW (by have := h.cl; omega) (fun a h1 h2 c hc s hs => by have := h.old _ c hc s hs; omega)
end
/- An Append of such a log, fitting or not. -/
theorem od_append {base : Nat} {w : World} {b lb : Nat} {D : Dev} {fr ln head x m : Nat} (hp : OD x m D) (h : LogAt base w b lb D fr ln head x) (t : List UInt8) (hB : base ≤ w.heap.size) (ht : t.length ≤ 1000) (hl : 0 < ln) (hfl : fr + ln ≤ 24) (hx : 1 ≤ x) (hx2 : x ≤ 1000000) (hh : head ≤ x) (hfr : x ≤ head + ln) (hm : m ≤ 1000000) :
    Calls Tryd.prog 11 #[.pointer (some ⟨lb, 0, none⟩), .string (S t)] w fun e w' => ∃ (er r0 r1 : Int) (rt : ByteArray) (x' : Nat) (D' : Dev), e = .returned (.tuple #[.agg #[.int .i64 r0, .int .i64 r1, .string rt], .int .i64 er]) ∧ OD x' (m + Codec.cost t.length) D' ∧ LogAt base w' b lb D' fr ln head x' ∧ x ≤ x' ∧ x' ≤ x + Codec.cost t.length ∧ x' ≤ head + ln ∧ LStep b lb w w' := by
  have hcb : Codec.cost t.length ≤ 1000 + 1 := Codec.cost_le _ _ (by omega) (by omega)
  by_cases hfit : x - head + Codec.cost t.length ≤ ln
  · obtain ⟨h1, h2⟩ := hp.put fr ln t hl hfl hx (by omega)
    have hap := append_put h t hB (by omega) hh hx (by omega) (by omega) (by omega) hfit (by rw [hp.lf]; omega) (by have := hp.cl; omega) (by have := hp.wl; omega)
    rw [h2] at hap
    refine hap.mono ?_
    rintro e w' ⟨k1, k2, k3⟩
    obtain ⟨rfl, hl'⟩ := k1 rfl
    exact ⟨0, _, _, _, x + Codec.cost t.length, _, rfl, h1, hl', by omega, Nat.le_refl _, by omega, k3⟩
  · refine (append_full h t (by omega) hh (by omega) (by omega) (by omega)).mono ?_
    rintro e w' ⟨rfl, hb⟩
    obtain ⟨h1, h2⟩ := h.later hb
    exact ⟨13, 0, 0, ⟨#[]⟩, x, D, rfl, ⟨hp.dn, hp.ar, hp.lf, hp.len, hp.fine, by have := hp.wl; omega, by have := hp.cl; omega, hp.old⟩, h1, Nat.le_refl _, by omega, hfr, h2⟩
end Go.Proofs.YtajcaglbbdbibaaDoor
/- WalBeyond's walk. -/
namespace Go.Proofs.YtajcaglbbdbibaaDoor
open Go.RowKit
set_option linter.unusedVariables false
set_option maxRecDepth 100000

theorem scan_up {g : Nat → Option Codec.Sec} : ∀ n a o t f, f ≤ a → (Codec.scan g n a o t f).2 ≤ a + n ∧ f ≤ (Codec.scan g n a o t f).2
  | 0, a, o, t, f, h => ⟨h, Nat.le_refl _⟩
  | n + 1, a, o, t, f, h => by
    unfold Codec.scan
    split
    · exact ⟨by show f ≤ _; omega, Nat.le_refl _⟩
    · split
      · split
        · have := scan_up (g := g) n (a + 1) true (t ++ ‹Codec.Sec›.data) f (by omega)
          omega
        · have := scan_up (g := g) n (a + 1) false [] (a + 1) (Nat.le_refl _)
          show (Codec.scan g n (a + 1) false [] (a + 1)).2 ≤ _ ∧ f ≤ (Codec.scan g n (a + 1) false [] (a + 1)).2
          omega
      · exact ⟨by show f ≤ _; omega, Nat.le_refl _⟩
theorem OD.mono {N m m' : Nat} {D : Dev} (h : OD N m D) (hm : m ≤ m') : OD N m' D := ⟨h.dn, h.ar, h.lf, h.len, h.fine, by have := h.wl; omega, by have := h.cl; omega, h.old⟩
/- Numbers that came in, the first 30 at most. -/
theorem few30 {w : World} {a3 : Option Addr} {len3 cap3 : Nat} {l3 : List Int} (hlen : l3.length = len3) (hr : NumRow w (.slice a3 len3 cap3) l3) : ∀ u, Below w.heap.size w u → (30 < len3 → NumRow u (.slice a3 30 cap3) (l3.take 30)) ∧ (¬ 30 < len3 → NumRow u (.slice a3 len3 cap3) (l3.take 30)) := fun u hu => by
  refine ⟨fun h30 => ?_, fun h30 => ?_⟩
  · obtain ⟨ao', c', e, hrow⟩ := hr.later hu
    refine ⟨a3, cap3, ?_, fun j hj => ?_⟩
    · rw [List.length_take, hlen, Nat.min_eq_left (by omega)]
    · have hj2 : j < l3.length := by rw [List.length_take] at hj; omega
      injection e with e1 e2 e3
      subst e1
      obtain ⟨bk, off, h1, h2⟩ := hrow j hj2
      refine ⟨bk, off, h1, ?_⟩
      rw [h2]
      congr 2
      simp
  · have e : l3.take 30 = l3 := List.take_of_length_le (by omega)
    rw [e]
    exact hr.later hu

set_option maxRecDepth 100000 in
set_option maxHeartbeats 12800000 in
theorem walBeyond_walk (a1 : Option Addr) (len1 cap1 : Nat) (z1 : List ByteArray) (w : World) (w1 : IsStrs w a1 len1 cap1 z1) (a2 : Option Addr) (len2 cap2 : Nat) (z2 : List ByteArray) (w2 : IsStrs w a2 len2 cap2 z2)
    (a3 : Option Addr) (len3 cap3 : Nat) (z3 : List Int) (w3 : IsInts w a3 len3 cap3 z3) (a4 : Option Addr) (len4 cap4 : Nat) (z4 : List Int) (w4 : IsInts w a4 len4 cap4 z4) :
    Calls Tryd.prog 5 #[.slice a1 len1 cap1, .slice a2 len2 cap2, .slice a3 len3 cap3, .slice a4 len4 cap4] w fun e w' => e = .returned (.bool true) ∧ Below w.heap.size w w' := by
  obtain ⟨l1, hl1, hm1, _, hr1⟩ := w1.norm
  obtain ⟨l2, hl2, hm2, _, hr2⟩ := w2.norm
  obtain ⟨l3, hl3, hm3, hc3, hr3⟩ := w3.norm
  obtain ⟨l4, hl4, hm4, hc4, hr4⟩ := w4.norm
  clear w1 w2 w3 w4
  unfold maxLen at hm1 hm2 hm3 hm4
  have HAW := hide (fun w => wawake_any w)
  have HBG := hide (fun wy => begin_log 0 12 5 wy (by omega) (by unfold areaE; simp [Dev.new]) (by omega) (by omega))
  unfold AV at HBG
  have HR1 := hide hr1
  have HR2 := hide hr2
  have HK3 := hide (few30 hl3 hr3)
  have HK4 := hide (few30 hl4 hr4)
  have hk3 : (l3.take 30).length ≤ 30 := by rw [List.length_take]; omega
  have hk4 : (l4.take 30).length ≤ 30 := by rw [List.length_take]; omega
  generalize l3.take 30 = kl3 at *
  generalize l4.take 30 = kl4 at *
  have HL1 := hide hl1
  have HL2 := hide hl2
  obtain ⟨i0, hi, hz0, hz1, hz2'⟩ := info_parts info_string
  clear hr1 hr2 hr3 hr4 hl1 hl2 hl3 hl4
  go_enter Tryd.func5, Tryd.ntmps5
  go_wp2_with fail
  refine (unhide HAW _).mono ?_
  rintro e w1 ⟨rfl, hb1⟩
  obtain ⟨w2, hw2⟩ : ∃ w2, w1.alloc (.cells #[.int .i64 0, .int .i64 12] 25) = w2 := ⟨_, rfl⟩
  obtain ⟨A, hA⟩ : ∃ A, w1.heap.size = A := ⟨_, rfl⟩
  have hb12 : Below w.heap.size w w2 := by rw [← hw2]; exact hb1.alloc hb1.size _
  have hx2' : w2.heap[A]? = some (.cells #[.int .i64 0, .int .i64 12] 25 (0, 0)) := by rw [← hw2, ← hA]; exact heap_alloc_new w1 _
  have p0 := bcell hx2' 0
  have p1 := bcell hx2' 1
  simp only [List.getElem?_toArray, List.getElem?_cons_zero, List.getElem?_cons_succ] at p0 p1
  have HX2 := hide hx2'
  have HB2 := hide hb12
  clear hb1 hx2' hb12 HAW
  go_wp2_with fail
  refine (unhide HBG _).mono ?_
  rintro e w3 ⟨b, lb, rfl, hl3, hb3⟩
  obtain ⟨B, hB⟩ : ∃ B, w2.heap.size = B := ⟨_, rfl⟩
  rw [hB] at hl3 hb3
  have HAB : Hid (A < B) := by rw [← hB]; exact block_lt (unhide HX2)
  have HWB : Hid (w.heap.size ≤ B) := by rw [← hB]; exact (unhide HB2).size
  have HLG := hide (show LogAt B w3 b lb (Dev.new 24) ((0 : Nat) : Int) ((12 : Nat) : Int) ((5 : Nat) : Int) ((5 : Nat) : Int) from hl3)
  have HLW := hide hb3
  clear hl3 hb3 HBG hw2 hA hB p0 p1
  go_upto_block 0 with fail
  go_cut [13] (fun _ wx => ∃ (x head m : Nat) (D : Dev), m ≤ 27 ∧ 5 ≤ head ∧ head ≤ x ∧ x ≤ head + 12 ∧ x ≤ 32 ∧ OD x m D ∧ LogAt B wx b lb D ((0 : Nat) : Int) ((12 : Nat) : Int) (head : Int) (x : Int) ∧ Below B w2 wx)
  case first =>
    go_wp2_with fail
    go_loopw [13] (fun i wr => ∃ j : Nat, j ≤ len1 ∧ j ≤ 9 ∧ i = .int .i64 j ∧ ∃ (x head m : Nat) (D : Dev), m ≤ 3 * j ∧ 5 ≤ head ∧ head ≤ x ∧ x ≤ head + 12 ∧ x ≤ 5 + 3 * j ∧ OD x m D ∧ LogAt B wr b lb D ((0 : Nat) : Int) ((12 : Nat) : Int) (head : Int) (x : Int) ∧ Below B w2 wr) (fun i _ => 9 - (intOf i).toNat)
    case atStart => exact ⟨0, Nat.zero_le _, Nat.zero_le _, rfl, 5, 5, 0, Dev.new 24, by omega, by omega, by omega, by omega, by omega, OD.new 5, unhide HLG, unhide HLW⟩
    case round =>
      obtain ⟨j, hj0, hj9, rfl, x, head, m, D, hm, hh5, hhx, hxh, hxj, hod, hlg, hlow⟩ := hrel
      clear HLG HLW
      have HOD := hide hod
      have HLG := hide hlg
      have HLW := hide hlow
      have HSZ : Hid (B ≤ wr.heap.size) := by have := hlg.dev.lo; have := hlg.dev.lt; show B ≤ _; omega
      by_cases hlt0 : j < len1
      · have i1 : (j : Int) < (len1 : Int) := by omega
        by_cases hlt9 : j < 9
        · have hjL : j < l1.length := by have := unhide HL1; omega
          obtain ⟨bk, off, rfl, hc0⟩ := (unhide HR1).later ((unhide HB2).trans (hlow.mono (unhide HWB))) j hjL
          have i2 : (j : Int) < 9 := by omega
          have i3 : (0 : Int) ≤ (j : Int) := by omega
          generalize l1[j]'hjL = t at *
          have HCUT := hide (fun wy => dcut_any t 120 wy)
          obtain ⟨u, hu⟩ : ∃ u, t.take 120 = u := ⟨_, rfl⟩
          have hu120 : u.length ≤ 120 := by rw [← hu, List.length_take]; omega
          rw [hu] at HCUT
          have hcu : Codec.cost u.length ≤ 3 := Codec.cost_le _ _ (by omega) (by omega)
          have HAPP := hide (od_append hod hlg u (unhide HSZ) (by omega) (by omega) (by omega) (by omega) (by omega) hhx hxh (by omega))
          clear hu hlow hod hlg
          go_wp2_with fail
          refine (unhide HCUT _).mono ?_
          rintro e w4 ⟨rfl, rfl⟩
          clear HCUT hc0
          go_wp2_with fail
          refine (unhide HAPP).mono ?_
          rintro e w5 ⟨er, q0, q1, qt, x', D', rfl, hod', hlg', hx1, hx2, hx3, hst⟩
          have HLW5 := hide ((unhide HLW).trans (hst.below (unhide HLG) (unhide HSZ)))
          have HOD5 := hide hod'
          have HLG5 := hide hlg'
          clear hst HAPP HOD HLG HLW
          have hand := w_mask2 (j : Int) 1 1 (by omega) (by decide)
          have hpar : ((j : Int) % ((2 ^ 1 : Nat) : Int) = 1 ∨ (j : Int) % ((2 ^ 1 : Nat) : Int) = 0) := by omega
          rcases hpar with hp | hp
          · rw [hp] at hand
            have HNX := hide (next_any hlg'.log)
            have HTR := hide (trim_ok hlg'.log (x' : Int) (by omega) (by omega))
            obtain ⟨hlt, hst⟩ := hlg'.setHead (x' : Int)
            have HLT := hide hlt
            have HLWT := hide ((unhide HLW5).trans (hst.below hlg' (by have := hlg'.dev.lo; have := hlg'.dev.lt; omega)))
            clear hod' hlg' hlt hst hp
            go_wp2_with fail
            refine (unhide HNX).mono ?_
            rintro e w6 ⟨rfl, rfl⟩
            go_wp2_with fail
            refine (unhide HTR).mono ?_
            rintro e w7 ⟨rfl, rfl⟩
            go_wp2_with fail
            exact ⟨⟨j + 1, by omega, by omega, by simp, x', x', m + Codec.cost u.length, D', by omega, by omega, by omega, by omega, by omega, unhide HOD5, unhide HLT, unhide HLWT⟩, by simp [intOf]; omega⟩
          · rw [hp] at hand
            clear hod' hlg' hp
            go_wp2_with fail
            exact ⟨⟨j + 1, by omega, by omega, by simp, x', head, m + Codec.cost u.length, D', by omega, by omega, by omega, by omega, by omega, unhide HOD5, unhide HLG5, unhide HLW5⟩, by simp [intOf]; omega⟩
        · have i2 : ¬ (j : Int) < 9 := by omega
          clear hod hlg hlow
          go_wp2_with fail
          go_meet
          case rel => exact ⟨x, head, m, D, by omega, by omega, by omega, by omega, by omega, unhide HOD, unhide HLG, unhide HLW⟩
      · have i1 : ¬ (j : Int) < (len1 : Int) := by omega
        clear hod hlg hlow
        go_wp2_with fail
        go_meet
        case rel => exact ⟨x, head, m, D, by omega, by omega, by omega, by omega, by omega, unhide HOD, unhide HLG, unhide HLW⟩
  case rest =>
  obtain ⟨x, head, m, D, hm, hh5, hhx, hxh, hx32, hod, hlg, hlow⟩ := hcut
  clear HLG HLW
  have HOD := hide hod
  have HLG := hide hlg
  have HLW := hide hlow
  have HSZ : Hid (B ≤ wc.heap.size) := by have := hlg.dev.lo; have := hlg.dev.lt; show B ≤ _; omega
  clear hod hlg hlow
  go_upto_if 71 with fail
  go_cut [2] (fun s2 wx => ∃ (kn kc : Nat), s2 = .slice a3 kn kc ∧ wx = wc ∧ (∀ u, Below w.heap.size w u → NumRow u (.slice a3 kn kc) kl3))
  case first =>
    by_cases h30 : 30 < len3
    · have h30i : (30 : Int) < (len3 : Int) := by omega
      have h30c : (30 : Int) ≤ (cap3 : Int) := by omega
      go_wp2_with fail
      go_meet
      case rel => exact ⟨30, cap3, rfl, rfl, fun u hu => (unhide HK3 u hu).1 h30⟩
    · have h30i : ¬ (30 : Int) < (len3 : Int) := by omega
      go_wp2_with fail
      go_meet
      case rel => exact ⟨len3, cap3, rfl, rfl, fun u hu => (unhide HK3 u hu).2 h30⟩
  case rest =>
  obtain ⟨kn3, kc3, rfl, rfl, hk3r⟩ := hcut
  have HKR3 := hide hk3r
  clear hk3r HK3
  go_upto_if 76 with fail
  go_cut [3] (fun s3 wx => ∃ (kn kc : Nat), s3 = .slice a4 kn kc ∧ wx = wc ∧ (∀ u, Below w.heap.size w u → NumRow u (.slice a4 kn kc) kl4))
  case first =>
    by_cases h30 : 30 < len4
    · have h30i : (30 : Int) < (len4 : Int) := by omega
      have h30c : (30 : Int) ≤ (cap4 : Int) := by omega
      go_wp2_with fail
      go_meet
      case rel => exact ⟨30, cap4, rfl, rfl, fun u hu => (unhide HK4 u hu).1 h30⟩
    · have h30i : ¬ (30 : Int) < (len4 : Int) := by omega
      go_wp2_with fail
      go_meet
      case rel => exact ⟨len4, cap4, rfl, rfl, fun u hu => (unhide HK4 u hu).2 h30⟩
  case rest =>
  obtain ⟨kn4, kc4, rfl, rfl, hk4r⟩ := hcut
  have HKR4 := hide hk4r
  clear hk4r HK4
  have HHD := hide (head_any (unhide HLG).log)
  have hlg := unhide HLG
  have hod := unhide HOD
  have hbW := (unhide HB2).trans ((unhide HLW).mono (unhide HWB))
  have HCR := hide (crash_any hlg.dev hod.fine.ok _ kl3 (unhide HKR3 _ hbW) (by have := hod.wl; omega) (by rw [hod.len]; omega) (by omega))
  have hod1 := hod.crash kl3
  have hW1 : (D.crash kl3).W = [] := rfl
  have HSC := hide (fun wy (hd : DevAt B wy b (D.crash kl3)) => scan_ok hd 0 12 head (by omega) (by rw [hod1.len]; omega) (by rw [hod1.len]; omega) rfl hod1.fine.cur (by omega) (by simp [Dev.crash]))
  obtain ⟨hup, hlo⟩ := scan_up (g := view (D.crash kl3) 0 12) 12 head false [] head (Nat.le_refl _)
  generalize Codec.scan (view (D.crash kl3) 0 12) 12 head false [] head = sc at *
  obtain ⟨rs, en⟩ := sc
  dsimp only at hup hlo HSC
  obtain ⟨x2, hx2⟩ : ∃ x2, en + 12 = x2 := ⟨_, rfl⟩
  have hpd := hod1.start hW1 (by omega) 0 12 x2 (by omega)
  generalize D.crash kl3 = D2 at *
  have HPD := hide hpd
  have hx2e : (en : Int) + 12 = (x2 : Int) := by omega
  have hx2b : 1 ≤ x2 ∧ x2 ≤ 100 := by omega
  have HDL : Hid (D2.L.length = 24) := hod1.len
  have HBY := hide (fun wy => beyond_any 0 12 en wy (by omega) (by omega))
  have HOP := hide (fun wy (hd : DevAt B wy b D2) (hB : B ≤ wy.heap.size) => open_ok hd 0 12 (x2 : Int) (by rw [hod1.len]; omega) (by omega) (by unfold areaE; rw [hod1.len]; simp) (by omega) (by omega) hB)
  obtain ⟨kq, _, hkq, hsc2, _⟩ := hpd.found (by omega) (by omega) (by omega) (by omega) D2 hod1.len (fun k c hc => hc)
  have hkq0 : kq = 0 := by simpa using hkq
  subst hkq0
  rw [show Codec.recs x2 (([] : List (List UInt8)).take 0) = [] from rfl, show Codec.costs (([] : List (List UInt8)).take 0) = 0 from rfl, Nat.add_zero] at hsc2
  have HS2 := hide (fun wy (hd : DevAt B wy b D2) => scan_ok hd 0 12 x2 (by omega) (by rw [hod1.len]; omega) (by rw [hod1.len]; omega) hod1.dn hod1.fine.cur (by omega) (by rw [hW1]; simp))
  rw [hsc2] at HS2
  unfold AV at HSC HOP HS2 HBY
  clear hsc2 hpd hod1 hW1 hod hlg hbW hkq
  go_wp2_with fail
  refine (unhide HHD).mono ?_
  rintro e w4 ⟨rfl, rfl⟩
  clear HHD
  go_wp2_with fail
  refine (unhide HCR).mono ?_
  rintro e w5 ⟨rfl, hd5, hs5⟩
  have HLW5 := hide ((unhide HLW).trans (hs5.below (unhide HLG).dev (unhide HSZ)))
  have HSZ5 := hide (Nat.le_trans (unhide HSZ) hs5.size)
  have HD5 := hide hd5
  have hx5 := ((unhide HLW5).block A (unhide HAB)).trans (unhide HX2)
  have p0 := bcell hx5 0
  have p1 := bcell hx5 1
  simp only [List.getElem?_toArray, List.getElem?_cons_zero, List.getElem?_cons_succ] at p0 p1
  clear hd5 hs5 hx5 HCR HLW HLG HOD HSZ HKR3
  go_wp2_with fail
  refine (unhide HSC _ (unhide HD5)).mono ?_
  rintro e w6 ⟨v6, rfl, ho6, hb6⟩
  obtain ⟨ao6, c6, rfl, _⟩ := ownsRow_slice ho6
  have HD6 := hide ((unhide HD5).later hb6).1
  have HLW6 := hide ((unhide HLW5).trans (hb6.mono (unhide HSZ5)))
  have HSZ6 := hide (Nat.le_trans (unhide HSZ5) hb6.size)
  have hx6 := ((unhide HLW6).block A (unhide HAB)).trans (unhide HX2)
  clear p0 p1
  have p0 := bcell hx6 0
  have p1 := bcell hx6 1
  simp only [List.getElem?_toArray, List.getElem?_cons_zero, List.getElem?_cons_succ] at p0 p1
  generalize rs.length = rn at *
  have hA6 := block_lt hx6
  clear ho6 hb6 hx6 HSC HLW5 HD5 HSZ5
  go_upto_region 20 with fail
  go_cut [18, 19] (fun s18 s19 wx => ∃ lb2, s18 = .pointer (some ⟨lb2, 0, none⟩) ∧ s19 = .int .i64 0 ∧ LogAt B wx b lb2 D2 ((0 : Nat) : Int) ((12 : Nat) : Int) (x2 : Int) (x2 : Int) ∧ Below B w2 wx)
  case first =>
    go_region_with (first
      | (go_at_call 23; refine (unhide HBY _).mono ?_; rintro e wq ⟨rfl, hbq⟩; have HBQ := hide (below_undrew hbq); have pq0 := ((unhide HBQ).cell (p := ⟨A, 0, none⟩) hA6).trans p0; have pq1 := ((unhide HBQ).cell (p := ⟨A, 1, none⟩) hA6).trans p1; clear hbq)
      | (go_at_call 22; refine (unhide HOP _ ((unhide HD6).later (unhide HBQ)).1 (Nat.le_trans (unhide HSZ6) (unhide HBQ).size)).mono ?_; rintro e w7 ⟨lb2, rfl, hlb2, hl7, hb7⟩; have HE7 := hide (And.intro hl7 (show Below B w2 w7 from (unhide HLW6).trans (((unhide HBQ).trans (hb7.mono (unhide HBQ).size)).mono (unhide HSZ6)))); clear hlb2 hl7 hb7))
    all_goals
      go_wp2_with fail
      go_meet
      case rel => exact ⟨lb2, rfl, rfl, (unhide HE7).1, (unhide HE7).2⟩
  case rest =>
  obtain ⟨lb2, rfl, rfl, hl7, hlow7⟩ := hcut
  have HNX := hide (next_any hl7.log)
  have HL7 := hide hl7
  have HLW7 := hide hlow7
  have HSZ7 : Hid (B ≤ wc.heap.size) := by have := hl7.dev.lo; have := hl7.dev.lt; show B ≤ _; omega
  have hx7 := (hlow7.block A (unhide HAB)).trans (unhide HX2)
  clear p0 p1
  have p0 := bcell hx7 0
  have p1 := bcell hx7 1
  simp only [List.getElem?_toArray, List.getElem?_cons_zero, List.getElem?_cons_succ] at p0 p1
  have b1 : ((x2 : Int) != (x2 : Int)) = false := by simp
  clear hl7 hlow7 hx7 HBY HOP HD6 HLW6 HSZ6
  go_wp2_with fail
  refine (unhide HNX).mono ?_
  rintro e w8 ⟨rfl, rfl⟩
  go_wp2_with fail
  refine (unhide HNX).mono ?_
  rintro e w8 ⟨rfl, rfl⟩
  clear HNX
  go_wp2_with fail
  refine (unhide HS2 _ (unhide HL7).dev).mono ?_
  rintro e w9 ⟨v9, rfl, ho9, hb9⟩
  obtain ⟨ao9, c9, rfl, _⟩ := ownsRow_slice ho9
  obtain ⟨hl9, hs9⟩ := (unhide HL7).later hb9
  have HTS2 : Hid (TS B w2 w9 b lb2 0 12 x2 [] 0 D2 (.slice none 0 0)) := ⟨unhide HPD, hl9, (unhide HLW7).trans (hb9.mono (unhide HSZ7)), World.ownsRow_nil _ _ _ _, Far.nil⟩
  rw [List.length_nil]
  clear ho9 hb9 hl9 hs9 HS2 HL7 HLW7 HSZ7 HPD p0 p1
  go_upto_block 2 with fail
  go_cut [24, 25, 26, 27, 28] (fun s24 _ _ _ _ wx => ∃ (ts : List (List UInt8)) (D : Dev) (ao : Option Addr) (c : Nat), s24 = .slice ao ts.length c ∧ TS B w2 wx b lb2 0 12 x2 ts 0 D (.slice ao ts.length c))
  case first =>
    go_wp2_with fail
    go_loopw [24, 25, 26, 27, 28] (fun v i _ _ _ wr => ∃ j : Nat, j ≤ len2 ∧ j ≤ 4 ∧ i = .int .i64 j ∧ ∃ (ts : List (List UInt8)) (D : Dev) (ao : Option Addr) (c : Nat), v = .slice ao ts.length c ∧ TS B w2 wr b lb2 0 12 x2 ts 0 D (.slice ao ts.length c)) (fun _ i _ _ _ _ => 4 - (intOf i).toNat)
    case atStart => exact ⟨0, Nat.zero_le _, Nat.zero_le _, rfl, [], D2, none, 0, rfl, unhide HTS2⟩
    case round =>
      obtain ⟨j, hj0, hj4, rfl, ts, D, ao, c, rfl, hts⟩ := hrel
      clear HTS2
      have hcst := hts.pd.cst
      have hus20 := len_costs ts
      have HTSj := hide hts
      have hlow := hts.low
      clear hts
      by_cases hlt0 : j < len2
      · have i1 : (j : Int) < (len2 : Int) := by omega
        by_cases hlt4 : j < 4
        · have hjL : j < l2.length := by have := unhide HL2; omega
          obtain ⟨bk, off, rfl, hc0⟩ := (unhide HR2).later ((unhide HB2).trans (hlow.mono (unhide HWB))) j hjL
          have i2 : (j : Int) < 4 := by omega
          have i3 : (0 : Int) ≤ (j : Int) := by omega
          generalize l2[j]'hjL = t at *
          have HCUT := hide (fun wy => dcut_any t 80 wy)
          obtain ⟨u, hu⟩ : ∃ u, t.take 80 = u := ⟨_, rfl⟩
          have hu100 : u.length ≤ 80 := by rw [← hu, List.length_take]; omega
          rw [hu] at HCUT
          have HAPP := hide (append_law (unhide HTSj).pd (unhide HTSj).log u (unhide HTSj).sz (by omega) (by omega) (by omega) (by omega) (by omega))
          clear hu hlow
          go_wp2_with fail
          refine (unhide HCUT _).mono ?_
          rintro e w4 ⟨rfl, rfl⟩
          clear HCUT hc0
          go_wp2_with fail
          refine (unhide HAPP).mono ?_
          rintro e w5 ⟨er, q0, q1, qt, rfl, hst5, hor⟩
          have hb5 := hst5.below (unhide HTSj).log (unhide HTSj).sz
          obtain ⟨hfar5, hrow5⟩ := (unhide HTSj).far.step (unhide HTSj).row hst5
          have hlow5 := (unhide HTSj).low.trans hb5
          have HSZ5 := hide (Nat.le_trans (unhide HTSj).sz hst5.size)
          clear hb5 hst5 HAPP
          rcases hor with ⟨rfl, hfit, rfl, rfl, rfl, hp5, hl5⟩ | ⟨rfl, hnf, rfl, rfl, rfl, hl5⟩
          · obtain ⟨n1, hn1⟩ : ∃ n1, x2 + Codec.costs ts = n1 := ⟨_, rfl⟩
            obtain ⟨n2, hn2⟩ : ∃ n2, x2 + Codec.costs ts + Codec.cost u.length - 1 = n2 := ⟨_, rfl⟩
            rw [hn2, hn1]
            obtain ⟨w6, hw6⟩ : ∃ w6, w5.alloc (.cells #[.int .i64 (n1 : Int), .int .i64 (n2 : Int), .string (S u)] 37) = w6 := ⟨_, rfl⟩
            have hb56 : Below w5.heap.size w5 w6 := by rw [← hw6]; exact (Below.refl _ _).alloc (Nat.le_refl _) _
            obtain ⟨hl6, hs6⟩ := hl5.later hb56
            obtain ⟨hfar6, hrow6⟩ := hfar5.step hrow5 hs6
            have hbA : Below w6.heap.size w6 (w6.alloc (.cells #[.string (S u)] 9)) := (Below.refl _ _).alloc (Nat.le_refl _) _
            obtain ⟨hlA, hsA⟩ := hl6.later hbA
            obtain ⟨hfarA, hrowA⟩ := hfar6.step hrow6 hsA
            have hlowA : Below B w2 (w6.alloc (.cells #[.string (S u)] 9)) := (hlow5.trans (hb56.mono (unhide HSZ5))).trans (hbA.mono (by have := unhide HSZ5; have := hb56.size; omega))
            have hcs : Codec.costs (ts ++ [u]) = Codec.costs ts + Codec.cost u.length := by rw [Codec.costs_append]; simp [Codec.costs]
            have HROWA := hide hrowA
            have HALL := hide (And.intro hp5 (And.intro hlA (And.intro hlowA hfarA)))
            have HSZA : Hid (B ≤ w6.heap.size) := Nat.le_trans (unhide HSZ5) hb56.size
            clear hp5 hl5 hl6 hs6 hfar5 hrow5 hfar6 hrow6 hb56 hbA hlA hsA hfarA hrowA hlow5 hlowA hcs hn1 hn2
            go_wp2_with (first | (at_builtin; refine wpList_append_fresh rfl _ _ 50 rfl B 9 i0 (.string ⟨#[]⟩) 1 16 under_strings hi hz0 hz1 hz2' rfl (by decide) _ _ _ rfl (unhide HROWA) ⟨w6.heap.size, 0, none⟩ 1 1 [.string (S u)] rfl rfl (w_cell_one _ _ _) ?c2 ?c3 ?c4 ?c5 ?_) | fail)
            case c2 => intro y hy; simp at hy; subst hy; rfl
            case c3 => unfold maxLen; omega
            case c4 => omega
            case c5 => have := unhide HSZA; simp; omega
            intro v' w7 hown' hgrow hfresh
            obtain ⟨k1, k2, k3, k4⟩ := unhide HALL
            have hts7 := (unhide HTSj).grown k1 k2 k3 (unhide HROWA) k4 hown' hgrow (by simpa using hfresh)
            obtain ⟨ao7, c7, rfl, _⟩ := ownsRow_slice hown'
            have HE : Hid (∃ (ts' : List (List UInt8)) (D' : Dev) (ao' : Option Addr) (c' : Nat), Value.slice ao7 (ts.length + 1) c7 = .slice ao' ts'.length c' ∧ TS B w2 w7 b lb2 0 12 x2 ts' 0 D' (.slice ao' ts'.length c')) := by
              have e1 : (ts ++ [u]).length = ts.length + 1 := by simp
              exact ⟨ts ++ [u], _, ao7, c7, by rw [e1], by rw [e1]; exact hts7⟩
            clear hown' hgrow hfresh k1 k2 k3 k4 hts7
            go_wp2_with fail
            exact ⟨⟨j + 1, by omega, by omega, by simp, unhide HE⟩, by simp [intOf]; omega⟩
          · have HTS5 : Hid (TS B w2 w5 b lb2 0 12 x2 ts 0 D (.slice ao ts.length c)) := ⟨(unhide HTSj).pd, hl5, hlow5, hrow5, hfar5⟩
            clear hl5 hlow5 hrow5 hfar5
            go_wp2_with fail
            exact ⟨⟨j + 1, by omega, by omega, by simp, ts, D, ao, c, rfl, (unhide HTS5).later ((Below.refl _ _).alloc (Nat.le_refl _) _)⟩, by simp [intOf]; omega⟩
        · have i2 : ¬ (j : Int) < 4 := by omega
          go_wp2_with fail
          go_meet
          case rel => exact ⟨ts, D, ao, c, rfl, unhide HTSj⟩
      · have i1 : ¬ (j : Int) < (len2 : Int) := by omega
        go_wp2_with fail
        go_meet
        case rel => exact ⟨ts, D, ao, c, rfl, unhide HTSj⟩
  case rest =>
  obtain ⟨ts, D, ao, c, rfl, hts⟩ := hcut
  have hcst2 := hts.pd.cst
  have hus20 := len_costs ts
  have HTSd := hide hts
  obtain ⟨k2, hmk2, hk2, hscan2, _⟩ := hts.pd.found (by omega) (by omega) (by omega) (by omega) (D.crash kl4) (by show (lay _ _).length = 24; rw [lay_length]; exact hts.pd.len) (crash_can D kl4)
  have hbwW := (unhide HB2).trans (hts.low.mono (unhide HWB))
  have HCR2 := hide (crash_any hts.log.dev hts.pd.fine.ok _ kl4 (unhide HKR4 _ hbwW) (by have := hts.pd.wl; omega) (by rw [hts.pd.len]; omega) (by omega))
  have hF2 := hts.pd.fine.crash kl4
  have hL2 : (D.crash kl4).L.length = 24 := by show (lay _ _).length = 24; rw [lay_length]; exact hts.pd.len
  have HSC2 := hide (fun wy (hd : DevAt B wy b (D.crash kl4)) => scan_ok hd 0 12 x2 (by omega) (by rw [hL2]; omega) (by rw [hL2]; omega) rfl hF2.cur (by omega) (by simp [Dev.crash]))
  rw [hscan2] at HSC2
  generalize D.crash kl4 = D5 at *
  obtain ⟨uk, huk⟩ : ∃ uk, ts.take k2 = uk := ⟨_, rfl⟩
  have hukl : uk.length = k2 := by rw [← huk, List.length_take]; omega
  rw [huk] at HSC2
  have hn2 : ¬ (ts.length : Int) < (uk.length : Int) := by omega
  have hukus : uk.length ≤ ts.length := by omega
  have HUK := hide huk
  have HUKL := hide hukl
  obtain ⟨en3, hen3⟩ : ∃ en3, x2 + Codec.costs uk = en3 := ⟨_, rfl⟩
  rw [hen3] at HSC2
  unfold AV at HSC2
  clear hscan2 huk hukl hen3 hts hbwW hF2 hL2 hmk2 hk2 HKR4 HTS2
  go_wp2_with fail
  refine (unhide HCR2).mono ?_
  rintro e w14 ⟨rfl, hd4, hs4⟩
  have hb4 := hs4.below (unhide HTSd).log.dev (unhide HTSd).sz
  have HB4 := hide ((unhide HTSd).low.trans hb4)
  have hx4 := ((unhide HB4).block A (unhide HAB)).trans (unhide HX2)
  have p0 := bcell hx4 0
  have p1 := bcell hx4 1
  simp only [List.getElem?_toArray, List.getElem?_cons_zero, List.getElem?_cons_succ] at p0 p1
  have HSC4 := hide (unhide HSC2 w14 hd4)
  have HSZ4 := hide (Nat.le_trans (unhide HTSd).sz hs4.size)
  have hrow4 := (unhide HTSd).far.step (unhide HTSd).row (LStep.of hs4)
  have HROW4 := hide hrow4.2
  clear hd4 hs4 hb4 hx4 hrow4 HCR2 HSC2 HTSd
  go_wp2_with fail
  refine (unhide HSC4).mono ?_
  rintro e w15 ⟨v28, rfl, ho5, hb5⟩
  obtain ⟨ao8, c8, rfl, _⟩ := ownsRow_slice ho5
  rw [Codec.recs_length] at ho5
  rw [Codec.recs_length]
  have HO15 := hide ho5
  have HROW15 := hide (ownsRow_later (unhide HROW4) hb5)
  have HB15 := hide ((unhide HB4).trans (hb5.mono (unhide HSZ4)))
  have HSZ15 := hide (Nat.le_trans (unhide HSZ4) hb5.size)
  clear ho5 hb5 HSC4 HB4 HSZ4 HROW4 p0 p1
  go_wp2_with fail
  go_loopw [185, 32, 33] (fun i _ _ wr => ∃ j : Nat, j ≤ uk.length ∧ i = .int .i64 j ∧ Below w15.heap.size w15 wr) (fun i _ _ _ => uk.length - (intOf i).toNat)
  case atStart => exact ⟨0, Nat.zero_le _, rfl, Below.refl _ _⟩
  case round =>
    obtain ⟨j, hj, rfl, hbr⟩ := hrel
    by_cases hjt : j < uk.length
    · have hra := ownsRow_later (unhide HROW15) hbr
      have hrb := ownsRow_later (unhide HO15) hbr
      obtain ⟨_, _, ea, hga⟩ := ownsRow_slice hra
      obtain ⟨_, _, eb, hgb⟩ := ownsRow_slice hrb
      injection ea with ea1 ea2 ea3
      injection eb with eb1 eb2 eb3
      obtain ⟨ga, hga'⟩ := hga (by omega)
      obtain ⟨gb, hgb'⟩ := hgb (by omega)
      rw [← ea1] at hga'
      rw [← eb1] at hgb'
      subst hga' hgb'
      have hjts : j < ts.length := by omega
      have hjr : j < (Codec.recs x2 uk).length := by rw [Codec.recs_length]; exact hjt
      have hjs : j < (Codec.recs x2 ts).length := by rw [Codec.recs_length]; omega
      have hsame : (Codec.recs x2 uk)[j]'hjr = ⟨x2 + Codec.costs (ts.take j), x2 + Codec.costs (ts.take j) + Codec.cost (ts[j]'hjts).length - 1, ts[j]'hjts⟩ := by
        have h1 : (Codec.recs x2 uk)[j]'hjr = (Codec.recs x2 ts)[j]'hjs := by
          have := unhide HUK
          subst this
          exact recs_pre ts x2 k2 j hjt hjts
        have h2 := recs_get ts x2 j hjts
        rw [List.getElem?_eq_getElem hjs] at h2
        rw [h1]
        exact Option.some.inj h2
      obtain ⟨y0, y1, y2⟩ := rec_cells hrb j hjr
      rw [hsame] at y0 y1 y2
      dsimp only at y0 y1 y2
      have hxt := ownsRow_cell hra (g := ga) (c := c) rfl j (.string (S (ts[j]'hjts))) (by simp [secs, List.getElem?_eq_getElem hjts])
      generalize ts[j]'hjts = t at *
      generalize x2 + Codec.costs (ts.take j) + Codec.cost t.length - 1 = n2 at *
      generalize x2 + Codec.costs (ts.take j) = n0 at *
      have i1 : (j : Int) < (uk.length : Int) := by omega
      have i2 : (j : Int) < (ts.length : Int) := by omega
      have i3 : (0 : Int) ≤ (j : Int) := by omega
      have hse : ((S t).toList == (S t).toList) = true := by simp
      obtain ⟨w16, hw16⟩ : ∃ w16, wr.alloc (.cells #[.int .i64 (n0 : Int), .int .i64 (n2 : Int), .string (S t)] 37) = w16 := ⟨_, rfl⟩
      obtain ⟨RB, hRB⟩ : ∃ RB, wr.heap.size = RB := ⟨_, rfl⟩
      have hb16 : Below wr.heap.size wr w16 := by rw [← hw16]; exact (Below.refl _ _).alloc (Nat.le_refl _) _
      have hbx16 : w16.heap[RB]? = some (.cells #[.int .i64 (n0 : Int), .int .i64 (n2 : Int), .string (S t)] 37 (0, 0)) := by rw [← hw16, ← hRB]; exact heap_alloc_new wr _
      have d2 := bcell hbx16 2
      simp only [List.getElem?_toArray, List.getElem?_cons_zero, List.getElem?_cons_succ] at d2
      have x0 := (hb16.cell (p := ⟨ga, j, none⟩) (cell_lt hxt)).trans hxt
      have HBr := hide (hbr.trans (hb16.mono hbr.size))
      clear ea1 ea2 ea3 eb1 eb2 eb3 hga hgb hra hrb hbr hjr hjs hsame hb16 hbx16 hxt
      go_wp2_with fail
      go_quiet (fail)
      clear x0 y0 y1 y2 d2 hw16 hRB hse
      go_wp2_with fail
      exact ⟨⟨j + 1, by omega, by simp, w_below_drewN (unhide HBr) _⟩, by simp [intOf]; omega⟩
    · have i1 : ¬ (j : Int) < (uk.length : Int) := by omega
      have HBF := hide ((unhide HB2).trans (((unhide HB15).trans (hbr.mono (unhide HSZ15))).mono (unhide HWB)))
      clear hbr
      go_wp2_with fail
      go_ret
      exact ⟨rfl, unhide HBF⟩
end Go.Proofs.YtajcaglbbdbibaaDoor
