/- The contract of the reference's Crash. -/
import Derived.Test.YtbggjkokfbcbcaaDRef5
import Derived.Test.YtbggjkokfbcbcaaDSpoil
namespace Go.Proofs.Ytbggjkokfbcbcaa
open Go.RowKit
set_option linter.unusedVariables false

set_option maxRecDepth 4000 in
set_option maxHeartbeats 3200000 in
theorem rcrash_any {base : Nat} {w : World} {lv cv : Value} {d : Dev} (h : RIs base w lv cv d) (hok : d.Ok) (kv : Value) (keep : List Int) (hkv : NumRow w kv keep) (hn : d.W.length ≤ 1099511627) (hm : d.L.length ≤ 1099511627) (hkl : keep.length ≤ 1099511627) (hB : base ≤ w.heap.size) :
    Calls Try.prog 17 #[RV lv cv d, kv] w fun e w' => ∃ lv', e = .returned (RV lv' (.slice none 0 0) (d.crash keep)) ∧ RIs base w' lv' (.slice none 0 0) (d.crash keep) ∧ (∀ k, lv'.ownBlock = some k → lv.ownBlock = some k ∨ w.heap.size ≤ k) ∧ Below w.heap.size w w' := by
  obtain ⟨i0, hi, hz0, hz1, hz2⟩ := info_parts info_rwrite
  obtain ⟨a0, c0, rfl, ha0⟩ := ownsRow_slice h.sec
  obtain ⟨a1, c1, rfl, ha1⟩ := ownsRow_slice h.loo
  obtain ⟨ak, ck, rfl, hkeep⟩ := hkv
  have HFIN : Hid (∀ (e : Ending) (lv' : Value) (w' : World), e = .returned (.agg #[lv', .slice none 0 0, .int .i64 (-1), .bool false, .int .i64 (d.calls : Int)]) → w'.ownsRow w.heap.size 9 1 lv' d.L.length (secs (lay d.L (chosen keep d.W))) → Below w.heap.size w w' → ∃ lv', e = .returned (RV lv' (.slice none 0 0) (d.crash keep)) ∧ RIs base w' lv' (.slice none 0 0) (d.crash keep) ∧ (∀ k, lv'.ownBlock = some k → (Value.slice a0 d.L.length c0).ownBlock = some k ∨ w.heap.size ≤ k) ∧ Below w.heap.size w w') :=
    fun e lv' w' he hrow hb => ⟨lv', he, ⟨by show w'.ownsRow base 9 1 lv' (lay d.L (chosen keep d.W)).length _; rw [lay_length]; exact ownsRow_less hrow hB, World.ownsRow_nil _ _ _ _⟩, fun k hk => Or.inr (hrow.lt k hk).1, hb⟩
  obtain ⟨P0, hP0⟩ : ∃ P0 : Ending → World → Prop, (fun (e : Ending) (w' : World) => ∃ lv', e = .returned (RV lv' (.slice none 0 0) (d.crash keep)) ∧ RIs base w' lv' (.slice none 0 0) (d.crash keep) ∧ (∀ k, lv'.ownBlock = some k → (Value.slice a0 d.L.length c0).ownBlock = some k ∨ w.heap.size ≤ k) ∧ Below w.heap.size w w') = P0 := ⟨_, rfl⟩
  have HFIN2 : Hid (∀ (e : Ending) (lv' : Value) (w' : World), e = .returned (.agg #[lv', .slice none 0 0, .int .i64 (-1), .bool false, .int .i64 (d.calls : Int)]) → w'.ownsRow w.heap.size 9 1 lv' d.L.length (secs (lay d.L (chosen keep d.W))) → Below w.heap.size w w' → P0 e w') := by
    rw [← hP0]; exact HFIN
  rw [hP0]
  clear HFIN hP0
  have hsub : ∀ x ∈ chosen keep d.W, x.1 < d.L.length := fun x hx => by
    unfold chosen at hx
    simp only [List.mem_map, List.mem_filter] at hx
    obtain ⟨y, ⟨hy, _⟩, rfl⟩ := hx
    exact hok.has _ (List.fst_mem_of_mem_zipIdx hy)
  have hchl : ∀ k, (chosen keep (d.W.take k)).length ≤ k := fun k => by
    unfold chosen
    rw [List.length_map]
    refine Nat.le_trans (List.length_filter_le _ _) ?_
    simp; omega
  have HSUB := hide hsub
  have HCHL := hide hchl
  obtain ⟨w0, hw0⟩ : ∃ w0, ((w.alloc (.cells #[.slice a0 d.L.length c0, .slice a1 d.W.length c1, .int .i64 (rleft d), .bool d.down, .int .i64 (d.calls : Int)] 31)).alloc (.cells #[.slice none 0 0, .slice none 0 0, .int .i64 0, .bool false, .int .i64 0] 31)).alloc (.cells #[] 68) = w0 := ⟨_, rfl⟩
  obtain ⟨M, hM⟩ : ∃ M, w.heap.size = M := ⟨_, rfl⟩
  obtain ⟨N, hN⟩ : ∃ N, M + 1 = N := ⟨_, rfl⟩
  obtain ⟨R, hR⟩ : ∃ R, N + 1 = R := ⟨_, rfl⟩
  have hbox : Below w.heap.size w w0 ∧ w0.heap[M]? = some (.cells #[.slice a0 d.L.length c0, .slice a1 d.W.length c1, .int .i64 (rleft d), .bool d.down, .int .i64 (d.calls : Int)] 31 (0, 0)) ∧ w0.heap[N]? = some (.cells #[.slice none 0 0, .slice none 0 0, .int .i64 0, .bool false, .int .i64 0] 31 (0, 0)) ∧ w0.heap.size = R + 1 ∧ w0.ownsRow R 68 2 (.slice (some ⟨R, 0, none⟩) 0 0) 0 [] := by
    rw [← hw0, ← hR, ← hN, ← hM]
    have hb2 : Below ((w.alloc (.cells #[.slice a0 d.L.length c0, .slice a1 d.W.length c1, .int .i64 (rleft d), .bool d.down, .int .i64 (d.calls : Int)] 31)).alloc (.cells #[.slice none 0 0, .slice none 0 0, .int .i64 0, .bool false, .int .i64 0] 31)).heap.size _ (((w.alloc (.cells #[.slice a0 d.L.length c0, .slice a1 d.W.length c1, .int .i64 (rleft d), .bool d.down, .int .i64 (d.calls : Int)] 31)).alloc (.cells #[.slice none 0 0, .slice none 0 0, .int .i64 0, .bool false, .int .i64 0] 31)).alloc (.cells #[] 68)) := (Below.refl _ _).alloc (Nat.le_refl _) _
    obtain ⟨h1, h2, _, h4⟩ := two_new hb2
    refine ⟨h4, h1, h2, by simp, ?_⟩
    have := World.ownsRow_lit (e := 68) (size := 2) ((w.alloc (.cells #[.slice a0 d.L.length c0, .slice a1 d.W.length c1, .int .i64 (rleft d), .bool d.down, .int .i64 (d.calls : Int)] 31)).alloc (.cells #[.slice none 0 0, .slice none 0 0, .int .i64 0, .bool false, .int .i64 0] 31)) #[] 0 (Nat.le_refl _) (by simp [maxLen]) (by simp)
    simpa using this
  obtain ⟨hb0, hm0, hn0, hs0, hr0⟩ := hbox
  unfold RV
  generalize rleft d = z at *
  obtain ⟨n, hnn⟩ : ∃ n, d.W.length = n := ⟨_, rfl⟩
  obtain ⟨m, hmm⟩ : ∃ m, keep.length = m := ⟨_, rfl⟩
  have HNN := hide hnn
  have HMM := hide hmm
  have HH := hide h
  have HK := hide hkeep
  have HB0 := hide hb0
  have HM0 := hide hm0
  have HN0 := hide hn0
  have HR0 := hide hr0
  have hwm : w0.cell? ⟨M, 1, none⟩ = some (.slice a1 n c1) := by rw [← hnn]; exact (cells5 hm0).2.1
  rw [hnn] at hn ha1 hw0 ⊢
  rw [hmm] at hkl ⊢
  clear h hsub hchl hok hkeep hb0 hm0 hn0 hr0 hnn hmm ha0
  go_enter Try.func17, Try.ntmps17
  go_wp2_with fail
  clear hw0 hwm
  have hne : N ≠ M := by omega
  go_loopw [5, 15] (fun v i wr => ∃ k : Nat, k ≤ n ∧ i = .int .i64 k ∧ wr.ownsRow R 68 2 v (chosen keep (d.W.take k)).length (wrs (chosen keep (d.W.take k))) ∧ Below R w0 wr) (fun v i _ => n - (intOf i).toNat)
  case atStart =>
    exact ⟨0, Nat.zero_le _, rfl, by simpa [chosen, wrs] using unhide HR0, Below.refl _ _⟩
  case round =>
    obtain ⟨k, hk, rfl, hr, hb⟩ := hrel
    clear HR0
    have hbs := hb.size
    have hbw : Below w.heap.size w wr := (unhide HB0).trans (hb.mono (by omega))
    obtain ⟨a5, c5, rfl, _⟩ := ownsRow_slice hr
    have hm1 : wr.heap[M]? = _ := (hb.block M (by omega)).trans (unhide HM0)
    have hn1 : wr.heap[N]? = _ := (hb.block N (by omega)).trans (unhide HN0)
    by_cases hlt : k < n
    · have hkW : k < d.W.length := by have := unhide HNN; omega
      obtain ⟨g1, rfl⟩ := ha1 (by omega)
      have hg := wrs_get d.W k hkW
      have hlc := ownsRow_later (unhide HH).loo hbw
      have hx0 := ownsRow_cell hlc (g := g1) (c := c1) (by rw [unhide HNN]) _ _ hg.1
      have hx1 := ownsRow_cell hlc (g := g1) (c := c1) (by rw [unhide HNN]) _ _ hg.2
      have HCT := hide (chosen_take keep d.W k hkW)
      have hcl := unhide HCHL k
      clear hg hlc
      generalize d.W[k]'hkW = y at *
      obtain ⟨y, t⟩ := y
      dsimp only at hx0 hx1
      generalize hch : chosen keep (d.W.take k) = ch at *
      have hk1 : (0 : Int) ≤ (k : Int) := by omega
      have hk2 : (k : Int) < (n : Int) := by omega
      obtain ⟨wa, hwa⟩ : ∃ wa, wr.alloc (.cells #[.int .i64 (y : Int), .string (S t)] 68) = wa := ⟨_, rfl⟩
      have hba : Below wr.heap.size wr wa := by rw [← hwa]; exact (Below.refl _ _).alloc (Nat.le_refl _) _
      have hbox : wa.heap[wr.heap.size]? = some (.cells #[.int .i64 (y : Int), .string (S t)] 68 (0, 0)) := by rw [← hwa]; exact heap_alloc_new wr _
      have hsa : wa.heap.size = wr.heap.size + 1 := by rw [← hwa]; simp
      have hra := ownsRow_later hr hba
      obtain ⟨v3, w3, hrun2, ho3, hg3, _⟩ := run_append_fresh (P := Try.prog) (wa.alloc (.cells #[.int .i64 (y : Int), .string (S t)] 68)) R 29 29 68 i0 (.agg #[.int .i64 0, .string ⟨#[]⟩]) 2 24 under_rwrites hi hz0 hz1 hz2 rfl (by decide) (.slice a5 ch.length c5) ch.length (wrs ch) (hra.alloc _) ⟨wa.heap.size, 0, none⟩ 1 1 [.int .i64 (y : Int), .string (S t)] rfl (fun j x hx => by exact cell_two_new _ _ _ _ j x hx) (by intro u hu; simp at hu; rcases hu with rfl | rfl <;> rfl) (by unfold maxLen; omega) (by omega) (by simp; omega)
      have hb3 : Below R w0 w3 := ((hb.trans (hba.mono (by omega))).alloc (by omega) _).grown hg3 (by simp; omega) (fun j hj => (hra.lt j hj).1)
      have HRUN := hide hrun2
      have HO3 := hide ho3
      have HB3 := hide hb3
      have HBA := hide (hb.trans (hba.mono (by omega)))
      have HRA := hide hra
      have HBW := hide (hbw.trans (hba.mono (by have := hbw.size; omega)))
      have hq0 := block_cell hbox 0
      have hq1 := block_cell hbox 1
      simp only [List.getElem?_toArray, List.getElem?_cons_zero, List.getElem?_cons_succ] at hq0 hq1
      clear hrun2 ho3 hg3 hb3 hba hbox hra hr hb hbw hm1 hn1 hch hbs hsa
      go_wp2_with fail
      clear hwa hx0 hx1
      go_loopw [8, 22] (fun s j wx => ∃ q : Nat, q ≤ m ∧ j = .int .i64 q ∧ s = .bool ((keep.take q).contains (k : Int)) ∧ wx = wa) (fun s j _ => m - (intOf j).toNat)
      case atStart => exact ⟨0, Nat.zero_le _, rfl, by simp, rfl⟩
      case round =>
        obtain ⟨q, hqm, rfl, rfl, rfl⟩ := hrel
        by_cases hlt2 : q < m
        · have hqk : q < keep.length := by have := unhide HMM; omega
          obtain ⟨bk, off, rfl, hck⟩ := unhide HK q hqk
          have hck2 := ((unhide HBW).cell (p := ⟨bk, off + q, none⟩) (cell_lt hck)).trans hck
          have HCO := hide (contains_take keep q hqk (k : Int))
          generalize keep[q]'hqk = x at *
          generalize (keep.take q).contains (k : Int) = bo at *
          have hj1 : (0 : Int) ≤ (q : Int) := by omega
          have hj2 : (q : Int) < (m : Int) := by omega
          clear hck
          cases bo with
          | true =>
            go_wp2_with fail
            go_roundw
            case rel => exact ⟨q + 1, by omega, by go_num, by rw [unhide HCO]; rfl, trivial⟩
            case measure => simp [intOf]; omega
          | false =>
            go_wp2_with fail
            go_roundw
            case rel => exact ⟨q + 1, by omega, by go_num, by rw [unhide HCO]; rfl, trivial⟩
            case measure => simp [intOf]; omega
        · have : q = m := by omega
          subst this
          have e : keep.take q = keep := List.take_of_length_le (by have := unhide HMM; omega)
          rw [e]
          generalize hbo : keep.contains (k : Int) = bo at *
          cases bo with
          | true =>
            have hct := unhide HCT
            rw [if_pos rfl] at hct
            have HCT2 := hide hct
            clear hct HCT
            obtain ⟨a3, c3, rfl, _⟩ := ownsRow_slice (unhide HO3)
            go_wp2_with (first | (at_builtin; refine wpList_append_is rfl _ _ 29 rfl _ _ _ _ rfl rfl (unhide HRUN) ?_) | fail)
            go_wp2_with fail
            go_roundw
            case rel =>
              refine ⟨k + 1, by omega, by go_num, ?_, unhide HB3⟩
              rw [unhide HCT2]
              have := unhide HO3
              rw [wrs_append, List.length_append]
              exact this
            case measure => simp [intOf]; omega
          | false =>
            have hct := unhide HCT
            rw [if_neg (by simp)] at hct
            have HCT2 := hide hct
            clear hct HCT
            go_wp2_with fail
            go_roundw
            case rel =>
              refine ⟨k + 1, by omega, by go_num, ?_, unhide HBA⟩
              rw [unhide HCT2]
              exact unhide HRA
            case measure => simp [intOf]; omega
    · have : k = n := by omega
      subst this
      have e : d.W.take k = d.W := List.take_of_length_le (by have := unhide HNN; omega)
      rw [e] at hr
      have hcl := unhide HCHL k
      rw [e] at hcl ⊢
      have HLAST := hide (fun wx (hb : Below wr.heap.size wr wx) => last_any (L := d.L) (W := chosen keep d.W) (ownsRow_later (ownsRow_later (unhide HH).sec hbw) hb) (ownsRow_later hr hb) (unhide HSUB) (by omega) (by omega))
      obtain ⟨p0, p1, p2, p3, p4⟩ := cells5 hm1
      obtain ⟨t0, t1, t2, t3, t4⟩ := cells5 hn1
      obtain ⟨f0, f1, f2, f3, f4⟩ := frozen5 hn1
      have hmlt := block_lt hm1
      have hnlt := block_lt hn1
      have HBW := hide hbw
      have HN1 := hide hn1
      have HM1 := hide hm1
      clear hr hb hbw hm1 hn1 e hbs t0 t1 t2 t3 t4 f0 f1 f2 f3 f4 p1 p2 p3
      go_wp2_with fail
      go_region_with (go_at_call 34; refine (unhide HLAST _ (by exact (Below.refl _ _).drew)).mono ?_; rintro e w2 ⟨v2, rfl, ho2, hb2⟩; replace hb2 : Below wr.heap.size wr w2 := (below_undrew hb2); replace ho2 : w2.ownsRow wr.heap.size 9 1 v2 d.L.length (secs (lay d.L (chosen keep d.W))) := ho2; obtain ⟨a3, c3, rfl, _⟩ := ownsRow_slice ho2; have hm2 := (hb2.block M hmlt).trans (unhide HM1); have hn2 := (hb2.block N hnlt).trans (unhide HN1); obtain ⟨r0, r1, r2, r3, r4⟩ := cells5 hm2; obtain ⟨t0, t1, t2, t3, t4⟩ := cells5 hn2; obtain ⟨f0, f1, f2, f3, f4⟩ := frozen5 hn2; have HN2 := hide hn2; have HO2 := hide ho2; have HB2 := hide hb2; clear hm2 hn2 ho2 hb2 p0 p4)
      all_goals
        go_wp2
        have hq := put5_same (a' := .slice a3 d.L.length c3) (b' := .slice none 0 0) (c' := .int .i64 (-1)) (d' := .bool false) (e' := .int .i64 (d.calls : Int)) (unhide HN2)
        obtain ⟨q0, q1, q2, q3, q4⟩ := cells5 hq
        have hws := (unhide HBW).size
        have hb5 : Below w.heap.size w (put5 w2 N (.slice a3 d.L.length c3) (.slice none 0 0) (.int .i64 (-1)) (.bool false) (.int .i64 (d.calls : Int))) := below_put5 ((unhide HBW).trans ((unhide HB2).mono hws)) (by omega) _ _ _ _ _
        have hrow : (put5 w2 N (.slice a3 d.L.length c3) (.slice none 0 0) (.int .i64 (-1)) (.bool false) (.int .i64 (d.calls : Int))).ownsRow w.heap.size 9 1 (.slice a3 d.L.length c3) d.L.length (secs (lay d.L (chosen keep d.W))) := by
          refine ownsRow_less (ownsRow_same (unhide HO2) fun j hj => ?_) hws
          have := ((unhide HO2).lt j hj).1
          exact put5_other _ _ _ _ _ (by omega)
        unfold put5 at q0 q1 q2 q3 q4 hb5 hrow
        exact bodyPost_ret (v := .agg #[.slice a3 d.L.length c3, .slice none 0 0, .int .i64 (-1), .bool false, .int .i64 (d.calls : Int)]) (by simp [results, Try.results17, go_sem, q0, q1, q2, q3, q4]) rfl (unhide HFIN2 _ _ _ rfl hrow hb5)
end Go.Proofs.Ytbggjkokfbcbcaa
