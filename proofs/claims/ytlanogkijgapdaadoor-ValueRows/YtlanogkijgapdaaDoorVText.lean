/- The contract of a state's Text. -/
import Derived.Test.YtlanogkijgapdaaDoorVCheck
import Derived.Test.YtlanogkijgapdaaDoorBundleC5
import Derived.Deep.DeepCutAuto
import Derived.Deep.CutBlock
namespace Go.Proofs.YtlanogkijgapdaaDoor
open Go.RowKit
set_option linter.unusedVariables false
set_option maxRecDepth 100000

def rowT (r : List UInt8 × List UInt8) : List UInt8 := Codec.encS r.1 ++ Codec.encS r.2
def headT (s : VS) : List UInt8 := Codec.enc (max s.kind 0).toNat ++ Codec.enc (Codec.fold s.n) ++ Codec.enc s.rows.length
def VS.text (s : VS) : List UInt8 := headT s ++ s.rows.flatMap rowT
theorem rows_snoc (l : List (List UInt8 × List UInt8)) (k : Nat) (h : k < l.length) : (l.take (k + 1)).flatMap rowT = (l.take k).flatMap rowT ++ rowT (l[k]'h) := by
  rw [List.take_succ_eq_append_getElem h, List.flatMap_append]; simp
theorem rows_short (l : List (List UInt8 × List UInt8)) (hl : ∀ i (h : i < l.length), (l[i]'h).1.length ≤ 40 ∧ (l[i]'h).2.length ≤ 40) (k : Nat) (hk : k ≤ l.length) : ((l.take k).flatMap rowT).length ≤ 98 * k := by
  induction k with
  | zero => simp
  | succ k ih =>
    rw [rows_snoc l k (by omega), List.length_append]
    have h1 := ih (by omega)
    obtain ⟨h2, h3⟩ := hl k (by omega)
    have h4 := Codec.enc_short (l[k]'(by omega)).1.length (by omega)
    have h5 := Codec.enc_short (l[k]'(by omega)).2.length (by omega)
    simp only [rowT, Codec.encS, List.length_append]
    omega

set_option maxHeartbeats 6400000 in
theorem vtext_any {w : World} {v : Value} {s : VS} (h : StAt w v s) (hk : -9223372036854775808 ≤ s.kind ∧ s.kind ≤ 9223372036854775807) (hn : -9223372036854775808 ≤ s.n ∧ s.n ≤ 9223372036854775807) (hr8 : s.rows.length ≤ 10) (hrl : ∀ i (h : i < s.rows.length), (s.rows[i]'h).1.length ≤ 40 ∧ (s.rows[i]'h).2.length ≤ 40) :
    Calls Tryd.prog 16 #[v] w fun e w' => e = .returned (.string (S s.text)) ∧ Below w.heap.size w w' := by
  obtain ⟨k, rfl, hr⟩ := h
  obtain ⟨a, c, rfl, hc, hm⟩ := hr.shape
  unfold maxLen at hm
  obtain ⟨W, hW⟩ : ∃ W, (w.alloc (.cells #[.int .i64 s.kind, .int .i64 s.n, .slice a s.rows.length c] 24)).alloc (.cells #[.slice none 0 0] 72) = W := ⟨_, rfl⟩
  have hbW : Below w.heap.size w W := by rw [← hW]; exact under_two w _ _
  have hO : OutAt W (w.heap.size + 1) [] := by
    have := OutAt.new (w.alloc (.cells #[.int .i64 s.kind, .int .i64 s.n, .slice a s.rows.length c] 24))
    rw [World.size_alloc, hW] at this
    exact this
  have hq0 : W.heap[w.heap.size]? = some (.cells #[.int .i64 s.kind, .int .i64 s.n, .slice a s.rows.length c] 24 (0, 0)) := by
    rw [← hW, Below.heap_alloc _ _ _ (by simp)]; exact heap_alloc_new w _
  have hsz : W.heap.size = w.heap.size + 1 + 1 := by rw [← hW]; simp
  have hkeep : ∀ w1, OR W (w.heap.size + 1) w1 → w1.heap[w.heap.size]? = some (.cells #[.int .i64 s.kind, .int .i64 s.n, .slice a s.rows.length c] 24 (0, 0)) := fun w1 h1 => by
    rw [(h1.2.keep w.heap.size (by omega) (Foreign.of_lt hO (by omega))).1]; exact hq0
  have c0 : ∀ w1, OR W (w.heap.size + 1) w1 → w1.cell? ⟨w.heap.size, 0, none⟩ = some (.int .i64 s.kind) := fun w1 h1 => by rw [block_cell (hkeep w1 h1)]; rfl
  have c1 : ∀ w1, OR W (w.heap.size + 1) w1 → w1.cell? ⟨w.heap.size, 1, none⟩ = some (.int .i64 s.n) := fun w1 h1 => by rw [block_cell (hkeep w1 h1)]; rfl
  have c2 : ∀ w1, OR W (w.heap.size + 1) w1 → w1.cell? ⟨w.heap.size, 2, none⟩ = some (.slice a s.rows.length c) := fun w1 h1 => by rw [block_cell (hkeep w1 h1)]; rfl
  have hst : OR W (w.heap.size + 1) W.drew := OR.drew ⟨⟨[], hO⟩, Step.refl _ _⟩
  have HO := hide hO
  have HLOW : Hid (∀ w1, OR W (w.heap.size + 1) w1 → Below w.heap.size w w1) := fun w1 h1 => hbW.trans (h1.2.below hO (by omega))
  have HRW : Hid (∀ w1, OR W (w.heap.size + 1) w1 → Row2 w1 (.slice a s.rows.length c) s.rows) := fun w1 h1 => hr.later (unhide HLOW w1 h1)
  have HW := hide hW
  obtain ⟨A, hA⟩ : ∃ A, Codec.enc (max s.kind 0).toNat = A := ⟨_, rfl⟩
  obtain ⟨N, hN⟩ : ∃ N, Codec.enc (Codec.fold s.n) = N := ⟨_, rfl⟩
  obtain ⟨Z, hZ⟩ : ∃ Z, Codec.enc s.rows.length = Z := ⟨_, rfl⟩
  have hA9 : A.length ≤ 9 := by rw [← hA]; exact Codec.enc_short _ (by omega)
  have hN9 : N.length ≤ 9 := by rw [← hN]; exact Codec.enc_short _ (Codec.fold_lt _ hn.1 hn.2)
  have hZ9 : Z.length ≤ 9 := by rw [← hZ]; exact Codec.enc_short _ (by omega)
  have HC1 := hide (fun (w1 : World) (h1 : OutAt w1 (w.heap.size + 1) []) (q : Nat) hq => vN_any (q := q) (x := s.kind) h1 (by simp) hk hq)
  have HC2 := hide (fun (w1 : World) (h1 : OutAt w1 (w.heap.size + 1) A) (q : Nat) hq => vI_any (q := q) (x := s.n) h1 (by omega) hn hq)
  have HC3 := hide (fun (w1 : World) (h1 : OutAt w1 (w.heap.size + 1) (A ++ N)) (q : Nat) hq => vN_any (q := q) (x := ((s.rows.length : Nat) : Int)) h1 (by simp; omega) ⟨by omega, by omega⟩ hq)
  have hmx : (max ((s.rows.length : Nat) : Int) 0).toNat = s.rows.length := by omega
  rw [hmx, hZ] at HC3
  rw [hN] at HC2
  rw [hA, List.nil_append] at HC1
  obtain ⟨T, hT⟩ : ∃ T, s.text = T := ⟨_, rfl⟩
  have HT : Hid (T = A ++ N ++ Z ++ s.rows.flatMap rowT) := by
    show _ = _
    rw [← hT, ← hA, ← hN, ← hZ]
    rfl
  rw [hT]
  clear hT hA hN hZ hmx hW hO hq0 hkeep hbW hr hsz
  go_enter Tryd.func16, Tryd.ntmps16
  go_upto_region 2 with fail
  rw [unhide HW]
  clear HW
  go_cut [] (fun wx => OutAt wx (w.heap.size + 1) (A ++ N ++ Z) ∧ OR W (w.heap.size + 1) wx)
  case first =>
    go_region_held3 (fun w' => OR W (w.heap.size + 1) w') (with_reducible (first | exact hst | (refine OR.step ?_ (by assumption) (by assumption); assumption) | (refine OR.alloc ?_ _; assumption) | (refine OR.drew (OR.alloc (OR.undrew ?_) _); assumption)))
      (first
        | (go_at_call 41; refine (unhide HC3 _ (by first | exact hO2 | exact (hO2.later (nest1 _)).1) _ (by first | exact valloc1 (by simp) | exact hk2 _ _ _ (by decide) (by simp) (valloc1 (by simp)) | exact hk2 _ _ _ (by decide) (by simp) (valloc2 (valloc1 (by simp))) | exact hk2 _ _ _ (by decide) (by simp) (hk1 _ _ _ (by decide) (by simp) (valloc1 (by simp))) | exact hk2 _ _ _ (by decide) (by simp) (hk1 _ _ _ (by decide) (by simp) (valloc2 (valloc1 (by simp))))  | exact hk2 _ _ _ (by decide) (by simp) (hk1 _ _ _ (by decide) (by simp) (valloc2 (valloc2 (valloc1 (by simp))))) | exact hk2 _ _ _ (by decide) (by simp) (valloc2 (hk1 _ _ _ (by decide) (by simp) (valloc1 (by simp)))) | exact hk2 _ _ _ (by decide) (by simp) (valloc2 (hk1 _ _ _ (by decide) (by simp) (valloc2 (valloc1 (by simp))))))).mono ?_; rintro e w3 ⟨rfl, hO3, hs3, hk3⟩)
        | (go_at_call 42; refine (unhide HC2 _ (by first | exact hO1 | exact (hO1.later (nest1 _)).1 | exact (hO1.later (nest2 _ _)).1) _ (by first | exact valloc1 (by simp) | exact valloc2 (valloc1 (by simp)) | exact hk1 _ _ _ (by decide) (by simp) (valloc1 (by simp)) | exact hk1 _ _ _ (by decide) (by simp) (valloc2 (valloc1 (by simp))) | exact hk1 _ _ _ (by decide) (by simp) (valloc2 (valloc2 (valloc1 (by simp)))) | exact valloc2 (hk1 _ _ _ (by decide) (by simp) (valloc1 (by simp))) | exact valloc2 (hk1 _ _ _ (by decide) (by simp) (valloc2 (valloc1 (by simp)))))).mono ?_; rintro e w2 ⟨rfl, hO2, hs2, hk2⟩)
        | (go_at_call 41; refine (unhide HC1 _ (by first | exact ((unhide HO).later (nest1 _).drew).1 | exact ((unhide HO).later (nest2 _ _).drew).1 | exact ((unhide HO).later (nest3 _ _ _).drew).1) _ (by first | exact valloc1 (by simp) | exact valloc2 (valloc1 (by simp)) | exact valloc2 (valloc2 (valloc1 (by simp))))).mono ?_; rintro e w1 ⟨rfl, hO1, hs1, hk1⟩)
        | fail)
    all_goals go_wp2_with fail
    all_goals go_meet
    all_goals exact ⟨hO3, by assumption⟩
  case rest =>
  obtain ⟨hO4, hor⟩ := hcut
  have HO4 := hide hO4
  have HOR := hide hor
  have HH : Hid (A ++ N ++ Z ++ (s.rows.take 0).flatMap rowT = A ++ N ++ Z) := by show _ = _; simp
  have HSN := hide (rows_snoc s.rows)
  have HSH := hide (rows_short s.rows hrl)
  have HRL := hide hrl
  have HTK : Hid (s.rows.take s.rows.length = s.rows) := List.take_length
  clear hO4 hst HC1 HC2 HC3 HO hrl
  have d2 := c2 _ hor
  obtain ⟨Y, hY⟩ : ∃ Y, A ++ N ++ Z = Y := ⟨_, rfl⟩
  have hY27 : Y.length ≤ 27 := by rw [← hY]; simp; omega
  rw [hY] at HO4 HT HH
  clear hY hor hA9 hN9 hZ9
  go_wp2_with fail
  clear d2 c0 c1 c2
  go_loopw [22] (fun i wr => ∃ k : Nat, k ≤ s.rows.length ∧ i = .int .i64 k ∧ OutAt wr (w.heap.size + 1) (Y ++ (s.rows.take k).flatMap rowT) ∧ OR W (w.heap.size + 1) wr) (fun i _ => s.rows.length - (intOf i).toNat)
  case atStart => exact ⟨0, Nat.zero_le _, rfl, (by rw [unhide HH]; exact unhide HO4), unhide HOR⟩
  case round =>
    obtain ⟨k, hk2, rfl, ho, hor⟩ := hrel
    have HOR2 := hide hor
    have HO2 := hide ho
    have hlo := unhide HLOW _ hor
    by_cases hlt : k < s.rows.length
    · obtain ⟨b, off, rfl, hbl, e1, e2⟩ := (unhide HRW _ hor).at k hlt
      obtain ⟨x40, y40⟩ := unhide HRL k hlt
      have hsh := unhide HSH k hk2
      have HSNK := hide (unhide HSN k hlt)
      generalize (s.rows[k]'hlt) = r at *
      obtain ⟨x, y⟩ := r
      dsimp only at *
      have hl2 : (Y ++ (s.rows.take k).flatMap rowT).length ≤ 1024 := by rw [List.length_append]; omega
      have HC := hide (fun (o : Obj) => outS_two (w.heap.size + 1) (Y ++ (s.rows.take k).flatMap rowT) x y (wr.alloc o) (ho.later (nest1 o)).1 hl2 x40 y40)
      have hi0 : (0 : Int) ≤ (k : Int) := by omega
      have hi1 : (k : Int) < ((s.rows.length : Nat) : Int) := by omega
      clear ho hor hlo hl2 HO4 HOR hsh HSN HRL HSH
      have HF : Hid (Y ++ (s.rows.take k).flatMap rowT ++ (Codec.encS x ++ Codec.encS y) = Y ++ (s.rows.take (k + 1)).flatMap rowT) := by
        show _ = _
        rw [unhide HSNK, List.append_assoc]; rfl
      simp only [unhide HF, World.size_alloc] at HC
      clear HF HSNK
      go_wp2_with fail
      refine (unhide HC _).mono ?_
      rintro e w5 ⟨rfl, hO5, hs5⟩
      have HO5 := hide hO5
      have HOR5 := hide (((unhide HOR2).alloc _).step hO5 hs5)
      clear hO5 hs5 HC
      go_wp2_with fail
      go_roundw
      case rel => exact ⟨k + 1, by omega, by go_num, unhide HO5, unhide HOR5⟩
      case measure => simp [intOf]; omega
    · have hkn : k = s.rows.length := by omega
      subst hkn
      rw [unhide HTK, ← unhide HT] at ho
      have HC := hide (text_any _ _ _ ho)
      have HLO := hide hlo
      clear ho hor hlo HO2
      go_wp2_with fail
      refine (unhide HC).mono ?_
      rintro e w5 ⟨rfl, rfl⟩
      go_wp2_with fail
      go_ret
      exact ⟨rfl, unhide HLO⟩
end Go.Proofs.YtlanogkijgapdaaDoor
