/- The contracts of a node's part and Split. -/
import Derived.Test.YtochaiinofhdhaaNWhole
namespace Go.Proofs.Ytochaiinofhdhaa
open Go.RowKit
set_option linter.unusedVariables false
set_option maxRecDepth 100000

theorem Row.cut {w : World} {a : Option Addr} {n c : Nat} {l : List Value} (h : Row w (.slice a n c) l) (t e : TypeId) (ht : Try.prog.underlying t = some (.slice (Try.prog.elem t))) (he : ∀ w, (sizeOf (Try.prog.elem t)).run Try.prog w = .ok 1 w) (i j : Nat) (hij : i ≤ j) (hj : j ≤ l.length) :
    ∃ a', (∀ wx, (Instr.slice t (.slice a n c) (some (.int .i64 (i : Int))) (some (.int .i64 (j : Int))) none).run Try.prog wx = .ok (.slice a' (j - i) (c - i)) wx) ∧ Row w (.slice a' (j - i) (c - i)) ((l.take j).drop i) := by
  obtain ⟨a0, c0, e0, h1, h2, h0, h3⟩ := h
  injection e0 with e1 e2 e3
  subst e1 e2 e3
  have hrow : Row w (.slice a l.length c) l := ⟨a, c, rfl, h1, h2, h0, h3⟩
  have hrun : ∀ wx, (Instr.slice t (.slice a l.length c) (some (.int .i64 (i : Int))) (some (.int .i64 (j : Int))) none).run Try.prog wx = .ok (sliced a i j c 1) wx := fun wx => by
    rw [run_slice_lh wx t a l.length c ht .i64 .i64 (i : Int) (j : Int) (by omega) (by omega) (by omega), he]
    simp [Result.andThen]
  unfold sliced at hrun
  refine ⟨_, hrun, hrow.part i j hij hj _ (fun hp => ?_) (fun hn => ?_)⟩
  · obtain ⟨b, off, rfl, _, _⟩ := h3 0 _ (List.getElem?_eq_getElem (by omega))
    exact ⟨b, off, rfl, by rw [if_neg (by omega)]; simp [plain_add]⟩
  · by_cases hc : c = i
    · omega
    · rw [if_neg hc] at hn
      have : a = none := by simpa using hn
      have := h0 this
      omega

theorem elem_strings : Try.prog.underlying 22 = some (.slice (Try.prog.elem 22)) := by kernel_rfl
theorem elem_ints : Try.prog.underlying 23 = some (.slice (Try.prog.elem 23)) := by kernel_rfl
theorem one_string (w : World) : (sizeOf (Try.prog.elem 22)).run Try.prog w = .ok 1 w := Try.sizeOf9 w
theorem one_int (w : World) : (sizeOf (Try.prog.elem 23)).run Try.prog w = .ok 1 w := Try.sizeOf3 w

def Nd.part (n : Nd) (i j : Nat) : Nd := if n.leaf then ⟨true, (n.keys.take j).drop i, (n.vals.take j).drop i, []⟩ else ⟨false, (n.keys.take (j - 1)).drop i, [], (n.kids.take j).drop i⟩
theorem T9_cut (l : List (List UInt8)) (i j : Nat) : ((T9 l).take j).drop i = T9 ((l.take j).drop i) := by simp [T9, List.map_take, List.map_drop]
theorem I9_cut (l : List Int) (i j : Nat) : ((I9 l).take j).drop i = I9 ((l.take j).drop i) := by simp [I9, List.map_take, List.map_drop]

set_option maxHeartbeats 6400000 in
theorem part_any {w : World} {v : Value} {n : Nd} (h : NdAt w v n) (hs : n.small) (i j : Nat) (hij : i < j) (hj : if n.leaf then j ≤ n.keys.length ∧ j ≤ n.vals.length else j ≤ n.kids.length ∧ j - 1 ≤ n.keys.length) :
    Calls Try.prog 65 #[v, .int .i64 (i : Int), .int .i64 (j : Int)] w fun e w' => ∃ v', e = .returned v' ∧ NdOwn w.heap.size w' v' (n.part i j) ∧ Below w.heap.size w w' := by
  obtain ⟨k, u, d, rfl, h1, h2, h3⟩ := h.rows
  obtain ⟨hs1, hs2, hs3⟩ := hs
  obtain ⟨lf, ks, vs, ds⟩ := n
  dsimp only at h1 h2 h3 hs1 hs2 hs3 h hj ⊢
  cases lf
  · simp only [Bool.false_eq_true, if_false] at hj
    obtain ⟨hj1, hj2⟩ := hj
    obtain ⟨B, R, X, hB, hR, HX1, hst, HLOW, hc0, hc1, hc2, hc3, t0, t1, t2, t3, hf⟩ := box_facts w (.bool false) k u d 25 25
    obtain ⟨ka, kc, rfl, _⟩ := h1.shape
    obtain ⟨da, dc, rfl, _⟩ := h3.shape
    obtain ⟨ka', hsk, hrk⟩ := h1.cut 22 9 elem_strings one_string i (j - 1) (by omega) (by rw [T9_length]; exact hj2)
    obtain ⟨da', hsd, hrd⟩ := h3.cut 23 3 elem_ints one_int i j (by omega) (by rw [I9_length]; exact hj1)
    have hw1 : IntKind.i64.wrap ((j : Int) - 1) = ((j - 1 : Nat) : Int) := by rw [IntKind.wrap_i64]; omega
    rw [T9_cut] at hrk
    rw [I9_cut] at hrd
    have HK : Hid (∀ w1, Reg ((w.alloc B).alloc R) X w1 → Row w1 _ _) := fun w1 hr => hrk.later (unhide HLOW w1 hr)
    have HD : Hid (∀ w1, Reg ((w.alloc B).alloc R) X w1 → Row w1 _ _) := fun w1 hr => hrd.later (unhide HLOW w1 hr)
    have HL1 := hide (show ((ks.take (j - 1)).drop i).length ≤ 1000000 by simp; omega)
    have HL2 := hide (show ((ds.take j).drop i).length ≤ 1000000 by simp; omega)
    obtain ⟨K1, hK1⟩ : ∃ K1, (ks.take (j - 1)).drop i = K1 := ⟨_, rfl⟩
    obtain ⟨D1, hD1⟩ : ∃ D1, (ds.take j).drop i = D1 := ⟨_, rfl⟩
    have HP := hide (show Nd.part ⟨false, ks, vs, ds⟩ i j = ⟨false, K1, [], D1⟩ by rw [← hK1, ← hD1]; rfl)
    rw [hK1] at HK HL1
    rw [hD1] at HD HL2
    clear h h1 h2 h3 hrk hrd hK1 hD1
    go_enter Try.func65, Try.ntmps65
    go_wp2_with fail
    rw [← hB, ← hR]
    clear hB hR
    go_region_held3 (fun w' => Reg ((w.alloc B).alloc R) X w') (first | exact hst | (refine Reg.below ?_ (by assumption) <;> assumption) | (refine Reg.put (by assumption) _ (unhide HX1) _ _ _ _))
      (first
        | (go_at_call 25; refine (sclone_any (unhide HK _ (by assumption)) (unhide HL1)).mono ?_; rintro e wk ⟨kv, rfl, hok, hbk⟩; obtain ⟨ua, uc, rfl, _⟩ := ownsRow_slice hok; have HOK := hide (ownsRow_less hok (Reg.size (by assumption))); clear hok)
        | (go_at_call 79; refine (iclone_any (unhide HD _ (by assumption)) (unhide HL2)).mono ?_; rintro e wd ⟨dv, rfl, hod, hbd⟩; obtain ⟨ea, ec, rfl, _⟩ := ownsRow_slice hod; have HOD := hide (ownsRow_less hod (Reg.size (by assumption))); have HRD := hide (Reg.below (by assumption) hbd); clear hod)
        | fail)
    all_goals
      have hfin := unhide HLOW _ (by assumption)
      go_wp2_with fail
      obtain ⟨q0, q1, q2, q3⟩ := (unhide HRD).put_cells (unhide HX1) (.bool false) (.slice ua K1.length uc) (.slice none 0 0) (.slice ea D1.length ec)
      have hlt : w.heap.size + 1 < ((w.alloc B).alloc R).heap.size := by simp
      have hle : w.heap.size ≤ ((w.alloc B).alloc R).heap.size := by simp; omega
      have hr1 := ownsRow_less (ownsRow_put4 (ownsRow_below (unhide HOK) hbd) hlt (.bool false) (.slice ua K1.length uc) (.slice none 0 0) (.slice ea D1.length ec)) hle
      have hr2 := ownsRow_less (ownsRow_put4 (unhide HOD) hlt (.bool false) (.slice ua K1.length uc) (.slice none 0 0) (.slice ea D1.length ec)) hle
      unfold put4 at q0 q1 q2 q3 hr1 hr2
      refine bodyPost_ret (v := .agg #[.bool false, .slice ua K1.length uc, .slice none 0 0, .slice ea D1.length ec]) (by simp [results, Try.results65, go_sem, q0, q1, q2, q3]) rfl ⟨_, rfl, ?_, hfin⟩
      rw [unhide HP]
      exact ⟨_, _, _, rfl, hr1, World.ownsRow_nil _ _ _ _, hr2⟩
  · simp only [if_true] at hj
    obtain ⟨hj1, hj2⟩ := hj
    obtain ⟨B, R, X, hB, hR, HX1, hst, HLOW, hc0, hc1, hc2, hc3, t0, t1, t2, t3, hf⟩ := box_facts w (.bool true) k u d 25 25
    obtain ⟨ka, kc, rfl, _⟩ := h1.shape
    obtain ⟨ua, uc, rfl, _⟩ := h2.shape
    obtain ⟨ka', hsk, hrk⟩ := h1.cut 22 9 elem_strings one_string i j (by omega) (by rw [T9_length]; exact hj1)
    obtain ⟨ua', hsu, hru⟩ := h2.cut 22 9 elem_strings one_string i j (by omega) (by rw [T9_length]; exact hj2)
    rw [T9_cut] at hrk hru
    have HK : Hid (∀ w1, Reg ((w.alloc B).alloc R) X w1 → Row w1 _ _) := fun w1 hr => hrk.later (unhide HLOW w1 hr)
    have HU : Hid (∀ w1, Reg ((w.alloc B).alloc R) X w1 → Row w1 _ _) := fun w1 hr => hru.later (unhide HLOW w1 hr)
    have HL1 := hide (show ((ks.take j).drop i).length ≤ 1000000 by simp; omega)
    have HL2 := hide (show ((vs.take j).drop i).length ≤ 1000000 by simp; omega)
    obtain ⟨K1, hK1⟩ : ∃ K1, (ks.take j).drop i = K1 := ⟨_, rfl⟩
    obtain ⟨U1, hU1⟩ : ∃ U1, (vs.take j).drop i = U1 := ⟨_, rfl⟩
    have HP := hide (show Nd.part ⟨true, ks, vs, ds⟩ i j = ⟨true, K1, U1, []⟩ by rw [← hK1, ← hU1]; rfl)
    rw [hK1] at HK HL1
    rw [hU1] at HU HL2
    clear h h1 h2 h3 hrk hru hK1 hU1
    go_enter Try.func65, Try.ntmps65
    go_wp2_with fail
    rw [← hB, ← hR]
    clear hB hR
    go_region_held3 (fun w' => Reg ((w.alloc B).alloc R) X w') (first | exact hst | (refine Reg.below ?_ (by assumption) <;> assumption) | (refine Reg.put (by assumption) _ (unhide HX1) _ _ _ _))
      (first
        | (go_at_call_of 25 (Value.slice ka' (j - i) (kc - i)); refine (sclone_any (unhide HK _ (by assumption)) (unhide HL1)).mono ?_; rintro e wk ⟨kv, rfl, hok, hbk⟩; obtain ⟨ea, ec, rfl, _⟩ := ownsRow_slice hok; have HOK := hide (ownsRow_less hok (Reg.size (by assumption))); clear hok)
        | (go_at_call_of 25 (Value.slice ua' (j - i) (uc - i)); refine (sclone_any (unhide HU _ (by assumption)) (unhide HL2)).mono ?_; rintro e wd ⟨dv, rfl, hod, hbd⟩; obtain ⟨fa, fc, rfl, _⟩ := ownsRow_slice hod; have HOD := hide (ownsRow_less hod (Reg.size (by assumption))); have HRD := hide (Reg.below (by assumption) hbd); clear hod)
        | fail)
    all_goals
      have hfin := unhide HLOW _ (by assumption)
      go_wp2_with fail
      obtain ⟨q0, q1, q2, q3⟩ := (unhide HRD).put_cells (unhide HX1) (.bool true) (.slice ea K1.length ec) (.slice fa U1.length fc) (.slice none 0 0)
      have hlt : w.heap.size + 1 < ((w.alloc B).alloc R).heap.size := by simp
      have hle : w.heap.size ≤ ((w.alloc B).alloc R).heap.size := by simp; omega
      have hr1 := ownsRow_less (ownsRow_put4 (ownsRow_below (unhide HOK) hbd) hlt (.bool true) (.slice ea K1.length ec) (.slice fa U1.length fc) (.slice none 0 0)) hle
      have hr2 := ownsRow_less (ownsRow_put4 (unhide HOD) hlt (.bool true) (.slice ea K1.length ec) (.slice fa U1.length fc) (.slice none 0 0)) hle
      unfold put4 at q0 q1 q2 q3 hr1 hr2
      refine bodyPost_ret (v := .agg #[.bool true, .slice ea K1.length ec, .slice fa U1.length fc, .slice none 0 0]) (by simp [results, Try.results65, go_sem, q0, q1, q2, q3]) rfl ⟨_, rfl, ?_, hfin⟩
      rw [unhide HP]
      exact ⟨_, _, _, rfl, hr1, hr2, World.ownsRow_nil _ _ _ _⟩
end Go.Proofs.Ytochaiinofhdhaa
