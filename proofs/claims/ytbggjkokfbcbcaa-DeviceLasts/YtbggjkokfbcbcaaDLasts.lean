/- DeviceLasts's walk. -/
import Derived.Test.YtbggjkokfbcbcaaDArgs
namespace Go.Proofs.Ytbggjkokfbcbcaa
open Go.RowKit
set_option linter.unusedVariables false

/- Eight sectors, k writes one behind the other, no loss of power. -/
def D8 (g f : Nat → List UInt8) (k c : Nat) : Dev := ⟨(List.range 8).map g, (List.range k).map (fun i => (i, whole (f i))), false, false, 0, c⟩
theorem D8_new (f : Nat → List UInt8) : Dev.new 8 = D8 (fun _ => whole []) f 0 0 := by
  unfold Dev.new D8
  congr 1
theorem D8_out (g f : Nat → List UInt8) (k c : Nat) : ¬(D8 g f k c).out := by simp [D8, Dev.out]
theorem D8_write (g f : Nat → List UInt8) (k c : Nat) (hk : k < 8) (hf : (f k).length ≤ 64) : (D8 g f k c).write (k : Int) (f k) = D8 g f (k + 1) (c + 1) := by
  unfold Dev.write
  rw [if_neg (by unfold Dev.no; simp [D8]; omega), if_neg (D8_out _ _ _ _)]
  unfold Dev.begin
  rw [if_neg (D8_out _ _ _ _)]
  simp [D8, List.range_succ]
theorem D8_flush (g f : Nat → List UInt8) (k c : Nat) (hk : k ≤ 8) (f2 : Nat → List UInt8) : (D8 g f k c).flush = D8 (fun j => if j < k then whole (f j) else g j) f2 0 (c + 1) := by
  unfold Dev.flush
  rw [if_neg (D8_out _ _ _ _)]
  unfold Dev.begin
  rw [if_neg (D8_out _ _ _ _)]
  simp only [D8]
  rw [lay_range (fun j => whole (f j)) 8 g k hk]
  simp
theorem D8_crash (g f : Nat → List UInt8) (k c : Nat) (hk : k ≤ 8) (keep : List Int) (f2 : Nat → List UInt8) : (D8 g f k c).crash keep = D8 (fun j => if j < k ∧ keep.contains (j : Int) = true then whole (f j) else g j) f2 0 c := by
  unfold Dev.crash
  simp only [D8]
  rw [lay_chosen keep (fun j => whole (f j)) 8 g k hk]
  simp
theorem D8_congr {g g' : Nat → List UInt8} (f f' : Nat → List UInt8) (c : Nat) (h : ∀ j, j < 8 → g j = g' j) : D8 g f 0 c = D8 g' f' 0 c := by
  unfold D8
  congr 1
  exact List.map_congr_left fun i hi => h i (List.mem_range.1 hi)
theorem D8_ok (g f : Nat → List UInt8) (k c : Nat) (hk : k ≤ 8) : (D8 g f k c).Ok := by
  refine ⟨fun x hx => ?_, by simp [D8]⟩
  simp [D8] at hx
  obtain ⟨i, hi, rfl⟩ := hx
  simp [D8]
  omega
theorem D8_read (g f : Nat → List UInt8) (c j : Nat) (hj : j < 8) : (D8 g f 0 c).read (j : Int) = g j ∧ (D8 g f 0 c).readE (j : Int) = 0 := by
  have hno : ¬(D8 g f 0 c).no (j : Int) := by unfold Dev.no; simp [D8]; omega
  unfold Dev.read Dev.readE
  rw [if_neg hno, if_neg hno]
  refine ⟨?_, by simp [D8]⟩
  simp [D8, Dev.cur, hj]

/- Eight texts. -/
def W8 (f : Nat → List UInt8) : List (List UInt8) := (List.range 8).map f
theorem W8_length (f : Nat → List UInt8) : (W8 f).length = 8 := by simp [W8]
theorem W8_set (f : Nat → List UInt8) (k : Nat) (v : List UInt8) : (secs (W8 f)).set k (.string (S v)) = secs (W8 fun i => if i = k then v else f i) := by
  unfold secs W8
  rw [← map_range_set, List.map_set]
theorem W8_get (f : Nat → List UInt8) (k : Nat) (h : k < 8) : (secs (W8 f))[k]? = some (.string (S (f k))) := by
  simp [secs, W8, h]

theorem d8_write {base : Nat} {w : World} {b : Nat} (g f : Nat → List UInt8) (k c : Nat) (h : DevAt base w b (D8 g f k c)) (hB : base ≤ w.heap.size) (hk : k < 8) (hf : (f k).length ≤ 64) (hc : c < 1000) :
    Calls Try.prog 11 #[.pointer (some ⟨b, 0, none⟩), .int .i64 (k : Int), .string (S (f k))] w fun e w' => (∃ x : Int, e = .returned (.int .i64 x)) ∧ DevAt base w' b (D8 g f (k + 1) (c + 1)) ∧ DStep b w w' := by
  have := write_any h (k : Int) (f k) (by simp [D8]) (by simp [D8]; omega) (by simp [D8]; omega) hB
  rw [D8_write g f k c hk hf] at this
  exact this.mono fun e w' ⟨h1, h2, h3⟩ => ⟨⟨_, h1⟩, h2, h3⟩

/- A row of eight texts that is none of the device's. -/
structure Own8 (base : Nat) (w : World) (b N : Nat) (d : Dev) (f : Nat → List UInt8) : Prop where
  dev : DevAt base w b d
  row : w.ownsRow N 9 1 (.slice (some ⟨N, 0, none⟩) 8 8) 8 (secs (W8 f))
  far : DFor w b N
theorem Own8.lt {base : Nat} {w : World} {b N : Nat} {d : Dev} {f : Nat → List UInt8} (h : Own8 base w b N d f) : N < w.heap.size := by
  obtain ⟨c, hc, _⟩ := ownsRow_blk h.row (k := N) rfl
  exact block_lt hc
theorem Own8.step {base : Nat} {w w' : World} {b N : Nat} {d d' : Dev} {f : Nat → List UInt8} (h : Own8 base w b N d f) (hd : DevAt base w' b d') (hs : DStep b w w') : Own8 base w' b N d' f := by
  obtain ⟨e, hf⟩ := hs.keep N h.lt h.far
  exact ⟨hd, ownsRow_same h.row (fun k hk => by cases hk; exact e), hf⟩
theorem Own8.later {base : Nat} {w w' : World} {b N : Nat} {d : Dev} {f : Nat → List UInt8} (h : Own8 base w b N d f) (hb : Below w.heap.size w w') : Own8 base w' b N d f := h.step (h.dev.later hb).1 (h.dev.later hb).2
theorem Own8.store {base : Nat} {w : World} {b N : Nat} {d : Dev} {f : Nat → List UInt8} (h : Own8 base w b N d f) (k : Nat) (v : List UInt8) : Own8 base (w.setCell ⟨N, k, none⟩ (.string (S v))) b N d (fun i => if i = k then v else f i) := by
  obtain ⟨h1, h2⟩ := h.dev.setOther h.far k (.string (S v))
  refine ⟨h1, ?_, h2⟩
  rw [← W8_set]
  exact ownsRow_store h.row rfl k _
theorem Own8.cell {base : Nat} {w : World} {b N : Nat} {d : Dev} {f : Nat → List UInt8} (h : Own8 base w b N d f) (k : Nat) (hk : k < 8) : w.cell? ⟨N, k, none⟩ = some (.string (S (f k))) ∧ w.frozen? ⟨N, k, none⟩ = false := by
  obtain ⟨c, hc, _⟩ := ownsRow_blk h.row (k := N) rfl
  exact ⟨ownsRow_cell h.row rfl k _ (W8_get f k hk), block_frozen hc k⟩
theorem Own8.congr {base : Nat} {w : World} {b N : Nat} {d : Dev} {f g : Nat → List UInt8} (h : Own8 base w b N d f) (e : ∀ i, i < 8 → f i = g i) : Own8 base w b N d g := by
  have : W8 f = W8 g := List.map_congr_left fun i hi => e i (List.mem_range.1 hi)
  exact ⟨h.dev, by rw [← this]; exact h.row, h.far⟩

set_option maxRecDepth 100000 in
set_option maxHeartbeats 6400000 in
theorem deviceLasts_walk (a0 : Option Addr) (len0 cap0 : Nat) (z0 : List ByteArray) (w : World) (w0 : IsStrs w a0 len0 cap0 z0) (a1 : Option Addr) (len1 cap1 : Nat) (z1 : List ByteArray) (w1 : IsStrs w a1 len1 cap1 z1)
    (a2 : Option Addr) (len2 cap2 : Nat) (z2 : List Int) (w2 : IsInts w a2 len2 cap2 z2) :
    Calls Try.prog 4 #[.slice a0 len0 cap0, .slice a1 len1 cap1, .slice a2 len2 cap2] w fun e w' => e = .returned (.bool true) ∧ Below w.heap.size w w' := by
  obtain ⟨l0, hl0, hm0, _, hr0⟩ := w0.norm
  obtain ⟨l1, hl1, hm1, _, hr1⟩ := w1.norm
  obtain ⟨l2, hl2, hm2, hc2, hr2⟩ := w2.norm
  clear w0 w1 w2
  unfold maxLen at hm0 hm1 hm2
  have HAW := hide (fun w => awake_any w)
  obtain ⟨F, hF⟩ : ∃ F : Nat → List UInt8, F = fun i => (l0.getD i []).take 64 := ⟨_, rfl⟩
  obtain ⟨G, hG⟩ : ∃ G : Nat → List UInt8, G = fun i => (l1.getD i []).take 64 := ⟨_, rfl⟩
  have HNEW := hide (new_ok 8 w (by omega) (by omega))
  rw [D8_new F] at HNEW
  have hF64 : ∀ i, (F i).length ≤ 64 := fun i => by rw [hF]; simp; omega
  have hG64 : ∀ i, (G i).length ≤ 64 := fun i => by rw [hG]; simp; omega
  have HFC : Hid (∀ k (h : k < l0.length) w, Calls Try.prog 10 #[.string (S (l0[k]'h)), .int .i64 64] w fun e w' => e = .returned (.string (S (F k))) ∧ w' = w) := fun k h w => by
    have := cut_any (l0[k]'h) 64 w
    rw [hF]
    simpa [List.getD_eq_getElem?_getD, List.getElem?_eq_getElem h] using this
  have HGC : Hid (∀ k (h : k < l1.length) w, Calls Try.prog 10 #[.string (S (l1[k]'h)), .int .i64 64] w fun e w' => e = .returned (.string (S (G k))) ∧ w' = w) := fun k h w => by
    have := cut_any (l1[k]'h) 64 w
    rw [hG]
    simpa [List.getD_eq_getElem?_getD, List.getElem?_eq_getElem h] using this
  have HF64 := hide hF64
  have HG64 := hide hG64
  have HR0 := hide hr0
  have HR1 := hide hr1
  have HR2 := hide hr2
  have HL0 := hide hl0
  have HL1 := hide hl1
  have HL2 := hide hl2
  clear hF hG hF64 hG64 hr0 hr1 hr2 hl0 hl1 hl2
  obtain ⟨i0, hi, hz0, hz1, hz2⟩ := info_parts info_string
  go_enter Try.func4, Try.ntmps4
  go_wp2_with fail
  refine (unhide HNEW).mono ?_
  rintro e wa ⟨b, rfl, hd1, hb1⟩
  have HD1 := hide hd1
  have HB1 := hide hb1
  clear hd1 hb1 HNEW
  go_wp2_with fail
  refine (unhide HAW wa).mono ?_
  rintro e wb ⟨rfl, hb2⟩
  have HD2 := hide ((unhide HD1).later hb2).1
  have HB2 := hide ((unhide HB1).trans (hb2.mono (unhide HB1).size))
  clear hb2 HD1 HB1 HAW
  obtain ⟨wc, hmk, hown1, hgr1⟩ := run_make_full (P := Try.prog) wb wb.heap.size 28 9 i0 (.string ⟨#[]⟩) 1 under_strings hi hz0 hz1 .i64 .i64 8 (by rw [hz2]; omega) (by unfold maxLen; omega) (Nat.le_refl _)
  have hb3 : Below wb.heap.size wb wc := (Below.refl _ _).grown hgr1 (Nat.le_refl _) (fun k e => by cases e)
  obtain ⟨N, hN⟩ : ∃ N, wb.heap.size = N := ⟨_, rfl⟩
  have HO3 : Hid (Own8 w.heap.size wc b N (D8 (fun _ => whole []) F 0 0) (fun _ => [])) := by
    refine ⟨((unhide HD2).later hb3).1, ?_, (DFor.new (unhide HD2) (by omega)).same (hb3.block b (unhide HD2).lt)⟩
    have e : (madeCells (Value.string ⟨#[]⟩).cells (8 * 1)).toList = secs (W8 fun _ => []) := by
      rw [Nat.mul_one]; exact toList_madeCells_one _ 8
    rw [← hN, ← e]
    exact hown1
  have HB3 := hide ((unhide HB2).trans (hb3.mono (unhide HB2).size))
  have hmk2 : (Instr.makeSlice 28 (.int .i64 8) (.int .i64 8)).run Try.prog wb = .ok (.slice (some ⟨N, 0, none⟩) 8 8) wc := by rw [← hN]; exact hmk
  have hNlo : w.heap.size ≤ N := by rw [← hN]; exact (unhide HB2).size
  clear hmk hown1 hgr1 hb3 hN HD2 HB2
  go_wp2_with fail
  clear hmk2
  go_loopw [10] (fun i wr => ∃ k : Nat, k ≤ 8 ∧ k ≤ len0 ∧ i = .int .i64 k ∧ Own8 w.heap.size wr b N (D8 (fun _ => whole []) F k k) (fun i => if i < k then F i else []) ∧ Below w.heap.size w wr) (fun i _ => 8 - (intOf i).toNat)
  case atStart =>
    refine ⟨0, Nat.zero_le _, Nat.zero_le _, rfl, (unhide HO3).congr (fun i hi => by simp), unhide HB3⟩
  case round =>
    obtain ⟨k, hk8, hkl, rfl, ho, hb⟩ := hrel
    clear HO3 HB3
    have HO := hide ho
    have HB := hide hb
    by_cases hlt : k < len0 ∧ k < 8
    · obtain ⟨hlt0, hlt8⟩ := hlt
      have hk0 : k < l0.length := by have := unhide HL0; omega
      obtain ⟨bk, off, rfl, hc0⟩ := (unhide HR0).later hb k hk0
      have HC := hide (unhide HFC k hk0 wr)
      obtain ⟨hcN, hfN⟩ := ho.cell k hlt8
      have HST := hide ((ho.store k (F k)).congr (g := fun i => if i < k + 1 then F i else []) (fun i hi => by
        by_cases e : i = k
        · subst e; simp
        · by_cases e2 : i < k
          · simp [e, e2, show i < k + 1 by omega]
          · simp [e, e2, show ¬i < k + 1 by omega]))
      have hf64 := unhide HF64 k
      generalize l0[k]'hk0 = s0 at *
      have hi1 : (0 : Int) ≤ (k : Int) := by omega
      have hi2 : (k : Int) < (len0 : Int) := by omega
      have hi3 : (k : Int) < 8 := by omega
      have hcN2 : (wr.setCell ⟨N, k, none⟩ (.string (S (F k)))).cell? ⟨N, k, none⟩ = some (.string (S (F k))) := World.cell?_setCell_same _ _ _ hcN
      clear ho hb
      go_wp2_with fail
      refine (unhide HC).mono ?_
      rintro e wd ⟨rfl, rfl⟩
      go_wp2_with fail
      have hB2 := (unhide HB).setCell (p := ⟨N, k, none⟩) hNlo (.string (S (F k)))
      refine (d8_write (fun _ => whole []) F k k (unhide HST).dev (by have := (unhide HB).size; simp; omega) hlt8 hf64 (by omega)).mono ?_
      rintro e we ⟨⟨x, rfl⟩, hd4, hs4⟩
      have HO4 := hide ((unhide HST).step hd4 hs4)
      have HB4 := hide (hB2.trans (hs4.below (unhide HST).dev (by have := (unhide HB).size; simp; omega)))
      clear hd4 hs4 hB2 HST HO HB HC hc0 hcN hfN hcN2
      go_wp2_with fail
      go_roundw
      case rel => exact ⟨k + 1, by omega, by omega, by go_num, unhide HO4, unhide HB4⟩
      case measure => simp [intOf]; omega
    · have hk : k = min len0 8 := by omega
      clear ho hb hlt
      obtain ⟨A, hA⟩ : ∃ A : Nat → List UInt8, A = fun i => if i < k then F i else [] := ⟨_, rfl⟩
      rw [← hA] at HO
      have eD : (D8 (fun _ => whole []) F k k).flush = D8 (fun j => whole (A j)) G 0 (k + 1) := by
        rw [D8_flush _ _ _ _ hk8 G]
        exact D8_congr _ _ _ fun j hj => by rw [hA]; by_cases e : j < k <;> simp [e]
      have HFL := hide (flush_any (unhide HO).dev (D8_ok _ _ _ _ hk8) (by simp [D8]) (by simp [D8]; omega) (by simp [D8]; omega) (by simp [D8]))
      rw [eD] at HFL
      obtain ⟨m, hm⟩ : ∃ m, min len1 8 = m := ⟨_, rfl⟩
      have hmi : min (len1 : Int) 8 = (m : Int) := by omega
      have hm8 : m ≤ 8 := by omega
      have hml : m ≤ len1 := by omega
      obtain ⟨c, hc⟩ : ∃ c, k + 1 = c := ⟨_, rfl⟩
      rw [hc] at HFL
      have hc9 : c ≤ 9 := by omega
      have hor : (len0 : Int) ≤ (k : Int) ∨ ((k : Int) < (len0 : Int) ∧ (8 : Int) ≤ (k : Int)) := by omega
      clear hk eD hA hm hc
      rcases hor with hk1 | ⟨hk1, hk2⟩
      all_goals
        go_wp2_with fail
        refine (unhide HFL).mono ?_
        rintro e wd ⟨rfl, hd5, hs5⟩
        have HO5 := hide ((unhide HO).step hd5 hs5)
        have HB5 := hide ((unhide HB).trans (hs5.below (unhide HO).dev (unhide HB).size))
        clear hd5 hs5 HO HB HFL
        go_wp2_with fail
        go_loopw [61] (fun i wr => ∃ k2 : Nat, k2 ≤ m ∧ i = .int .i64 k2 ∧ Own8 w.heap.size wr b N (D8 (fun j => whole (A j)) G k2 (c + k2)) A ∧ Below w.heap.size w wr) (fun i _ => m - (intOf i).toNat)
        case atStart =>
          exact ⟨0, Nat.zero_le _, rfl, unhide HO5, unhide HB5⟩
        case round =>
          obtain ⟨k2, hk2m, rfl, ho, hb⟩ := hrel
          clear HO5 HB5
          have HO := hide ho
          have HB := hide hb
          by_cases hlt : k2 < m
          · have hkl1 : k2 < l1.length := by have := unhide HL1; omega
            obtain ⟨bk, off, rfl, hc0⟩ := (unhide HR1).later hb k2 hkl1
            have HC := hide (unhide HGC k2 hkl1 wr)
            have hg64 := unhide HG64 k2
            generalize l1[k2]'hkl1 = s0 at *
            have hi1 : (0 : Int) ≤ (k2 : Int) := by omega
            have hi2 : (k2 : Int) < (len1 : Int) := by omega
            clear ho hb
            go_wp2_with fail
            refine (unhide HC).mono ?_
            rintro e we ⟨rfl, rfl⟩
            go_wp2_with fail
            refine (d8_write (fun j => whole (A j)) G k2 (c + k2) (unhide HO).dev (unhide HB).size (by omega) hg64 (by omega)).mono ?_
            rintro e wf ⟨⟨x, rfl⟩, hd6, hs6⟩
            have HO6 := hide ((unhide HO).step hd6 hs6)
            have HB6 := hide ((unhide HB).trans (hs6.below (unhide HO).dev (unhide HB).size))
            clear hd6 hs6 HO HB HC hc0
            go_wp2_with fail
            go_roundw
            case rel => exact ⟨k2 + 1, by omega, by go_num, unhide HO6, unhide HB6⟩
            case measure => simp [intOf]; omega
          · have : k2 = m := by omega
            subst this
            have HFEW := hide (few_any a2 len2 cap2 l2 wr (unhide HL2) hc2)
            have HBW := hide hb
            have HCR := hide (fun kv (hkv : NumRow wr kv (l2.take 30)) => crash_any ho.dev (D8_ok _ _ _ _ hm8) kv (l2.take 30) hkv (by simp [D8]; omega) (by simp [D8]) (by simp; omega))
            have hl30 : (l2.take 30).length ≤ 30 := by simp; omega
            obtain ⟨l3, hl3⟩ : ∃ l3, l2.take 30 = l3 := ⟨_, rfl⟩
            rw [hl3] at HFEW HCR hl30
            obtain ⟨A2, hA2⟩ : ∃ A2 : Nat → List UInt8, A2 = fun j => if j < k2 ∧ l3.contains (j : Int) = true then G j else A j := ⟨_, rfl⟩
            have eD : (D8 (fun j => whole (A j)) G k2 (c + k2)).crash l3 = D8 (fun j => whole (A2 j)) G 0 (c + k2) := by
              rw [D8_crash _ _ _ _ hm8 _ G]
              exact D8_congr _ _ _ fun j hj => by
                rw [hA2]
                show _ = whole (if j < k2 ∧ l3.contains (j : Int) = true then G j else A j)
                by_cases e : j < k2 ∧ l3.contains (j : Int) = true
                · rw [if_pos e, if_pos e]
                · rw [if_neg e, if_neg e]
            rw [eD] at HCR
            have HA2 := hide hA2
            clear ho hb hlt eD hA2 hl3
            go_wp2_with fail
            refine (unhide HFEW).mono ?_
            rintro e we ⟨kv, rfl, hkv, rfl⟩
            have hkw := hkv w (unhide HR2)
            have HKV := hide (hkw.later (unhide HBW))
            have HKW := hide hkw
            clear hkv hkw HFEW
            go_wp2_with fail
            refine (unhide HCR kv (unhide HKV)).mono ?_
            rintro e wf ⟨rfl, hd7, hs7⟩
            have HO7 := hide ((unhide HO).step hd7 hs7)
            have HB7 := hide ((unhide HB).trans (hs7.below (unhide HO).dev (unhide HB).size))
            clear hd7 hs7 HO HB HCR HKV HBW
            obtain ⟨ak, ck, rfl, hkc⟩ := unhide HKW
            have HKC := hide hkc
            clear hkc
            obtain ⟨q, hq⟩ : ∃ q, l3.length = q := ⟨_, rfl⟩
            rw [hq] at HKW hl30 ⊢
            have HQ := hide hq
            clear hq
            go_wp2_with fail
            go_loopw [80] (fun i wr => ∃ j : Nat, j ≤ q ∧ i = .int .i64 j ∧ Own8 w.heap.size wr b N (D8 (fun j => whole (A2 j)) G 0 (c + k2)) (fun i => if i < k2 ∧ (l3.take j).contains (i : Int) = true then G i else A i) ∧ Below w.heap.size w wr) (fun i _ => q - (intOf i).toNat)
            case atStart =>
              exact ⟨0, Nat.zero_le _, rfl, (unhide HO7).congr (fun i hi => by simp), unhide HB7⟩
            case round =>
              obtain ⟨j, hjq, rfl, ho, hb⟩ := hrel
              clear HO7 HB7
              by_cases hlt : j < q
              · have hjl : j < l3.length := by have := unhide HQ; omega
                obtain ⟨bk, off, rfl, hcj⟩ := unhide HKC j hjl
                rw [← hb.cell (p := ⟨bk, off + j, none⟩) (cell_lt hcj)] at hcj
                have HCT := hide (contains_take l3 j hjl)
                generalize l3[j]'hjl = x at *
                by_cases hx : 0 ≤ x ∧ x < k2
                · obtain ⟨y, rfl⟩ : ∃ y : Nat, x = (y : Int) := ⟨x.toNat, by omega⟩
                  have hyk : y < k2 := by omega
                  have hyl : y < l1.length := by have := unhide HL1; omega
                  obtain ⟨bk2, off2, rfl, hc0⟩ := (unhide HR1).later hb y hyl
                  have HC := hide (unhide HGC y hyl wr)
                  obtain ⟨hcN, hfN⟩ := ho.cell y (by omega)
                  have HST := hide ((ho.store y (G y)).congr (g := fun i => if i < k2 ∧ (l3.take (j + 1)).contains (i : Int) = true then G i else A i) (fun i hi => by
                    have := unhide HCT (i : Int)
                    by_cases e : i = y
                    · subst e
                      rw [if_pos rfl, if_pos ⟨hyk, by rw [this]; simp⟩]
                    · have e2 : ((y : Int) == (i : Int)) = false := by simp; omega
                      rw [if_neg e, this, e2, Bool.or_false]))
                  have HB8 := hide (hb.setCell (p := ⟨N, y, none⟩) hNlo (.string (S (G y))))
                  generalize l1[y]'hyl = s0 at *
                  generalize (if y < k2 ∧ (l3.take j).contains (y : Int) = true then G y else A y) = old at *
                  have hi1 : (0 : Int) ≤ (y : Int) := by omega
                  have hi2 : (y : Int) < (k2 : Int) := by omega
                  have hi3 : (y : Int) < (len1 : Int) := by omega
                  have hi4 : (y : Int) < 8 := by omega
                  have hj1 : (0 : Int) ≤ (j : Int) := by omega
                  have hj2 : (j : Int) < (q : Int) := by omega
                  clear ho hb hx
                  go_wp2_with fail
                  refine (unhide HC).mono ?_
                  rintro e wg ⟨rfl, rfl⟩
                  go_wp2_with fail
                  go_roundw
                  case rel => exact ⟨j + 1, by omega, by go_num, unhide HST, unhide HB8⟩
                  case measure => simp [intOf]; omega
                · have HST := hide (ho.congr (g := fun i => if i < k2 ∧ (l3.take (j + 1)).contains (i : Int) = true then G i else A i) (fun i hi => by
                    have := unhide HCT (i : Int)
                    by_cases h2 : i < k2
                    · have e2 : (x == (i : Int)) = false := by simp; omega
                      rw [this, e2, Bool.or_false]
                    · rw [if_neg (fun h => h2 h.1), if_neg (fun h => h2 h.1)]))
                  have HB8 := hide hb
                  have hj1 : (0 : Int) ≤ (j : Int) := by omega
                  have hj2 : (j : Int) < (q : Int) := by omega
                  by_cases hx0 : x < 0
                  · clear ho hb hx
                    go_wp2_with fail
                    go_roundw
                    case rel => exact ⟨j + 1, by omega, by go_num, unhide HST, unhide HB8⟩
                    case measure => simp [intOf]; omega
                  · have hxk : (k2 : Int) ≤ x := by omega
                    clear ho hb hx
                    go_wp2_with fail
                    go_roundw
                    case rel => exact ⟨j + 1, by omega, by go_num, unhide HST, unhide HB8⟩
                    case measure => simp [intOf]; omega
              · have : j = q := by omega
                subst this
                have HO9 := hide (ho.congr (g := A2) (fun i hi => by rw [unhide HA2, ← unhide HQ, List.take_length]))
                have HB9 := hide hb
                clear ho hb hlt
                go_wp2_with fail
                go_loopw [102] (fun i wr => ∃ t : Nat, t ≤ 8 ∧ i = .int .i64 t ∧ Own8 w.heap.size wr b N (D8 (fun j => whole (A2 j)) G 0 (c + k2)) A2 ∧ Below w.heap.size w wr) (fun i _ => 8 - (intOf i).toNat)
                case atStart =>
                  exact ⟨0, Nat.zero_le _, rfl, unhide HO9, unhide HB9⟩
                case round =>
                  obtain ⟨t, ht8, rfl, ho, hb⟩ := hrel
                  clear HO9 HB9
                  have HO := hide ho
                  have HB := hide hb
                  by_cases hlt : t < 8
                  · obtain ⟨hcN, _⟩ := ho.cell t hlt
                    have HRD := hide (read_any ho.dev (t : Int) (by simp [D8]))
                    rw [(D8_read _ _ _ t hlt).1, (D8_read _ _ _ t hlt).2] at HRD
                    have HFI := hide (fun w => fill_any (A2 t) w)
                    generalize whole (A2 t) = z at *
                    have hi1 : (0 : Int) ≤ (t : Int) := by omega
                    have hi4 : (t : Int) < 8 := by omega
                    clear ho hb
                    go_wp2_with fail
                    refine (unhide HRD).mono ?_
                    rintro e wg ⟨rfl, hb10⟩
                    have HO10 := hide ((unhide HO).later hb10)
                    have HB10 := hide ((unhide HB).trans (hb10.mono (unhide HB).size))
                    clear hb10 HO HB HRD hcN
                    go_wp2_with fail
                    refine (unhide HFI wg).mono ?_
                    rintro e wh ⟨rfl, rfl⟩
                    go_wp2_with fail
                    go_roundw
                    case rel => exact ⟨t + 1, by omega, by go_num, unhide HO10, unhide HB10⟩
                    case measure => simp [intOf]; omega
                  · have : t = 8 := by omega
                    subst this
                    have HLO := hide (loose_any ho.dev)
                    rw [show (D8 (fun j => whole (A2 j)) G 0 (c + k2)).W.length = 0 by simp [D8]] at HLO
                    clear ho hb hlt
                    go_wp2_with fail
                    refine (unhide HLO).mono ?_
                    rintro e wg ⟨rfl, rfl⟩
                    go_wp2_with fail
                    go_ret
                    exact ⟨rfl, unhide HB⟩
end Go.Proofs.Ytbggjkokfbcbcaa
