/- The contracts of the reference's Take, Give, Keep, Undo, Text. -/
import Derived.Test.YtemffpkpalncgaaUTexts
import Derived.Test.YtemffpkpalncgaaACopy
namespace Go.Proofs.Ytemffpkpalncgaa
open Go.RowKit
set_option linter.unusedVariables false

theorem nums_one (l : List Nat) : ∀ u ∈ nums l, u.oneCell' = true := by
  intro u hu
  simp only [nums, List.mem_map] at hu
  obtain ⟨x, _, rfl⟩ := hu
  rfl
theorem ucell_new (w : World) (u : Value) (t : TypeId) (j : Nat) (x : Value) (h : [u][j]? = some x) : (w.alloc (.cells #[u] t)).cell? ((⟨w.heap.size, 0, none⟩ : Addr).add j) = some x := by
  rw [plain_add, Nat.zero_add, block_cell (heap_alloc_new w _)]
  match j, h with
  | 0, h => simpa using h
  | j + 1, h => simp at h
/- A row of numbers that the walk reads. -/
theorem nums_cell {w : World} {base : Nat} {g n c : Nat} {l : List Nat} (h : w.ownsRow base 3 1 (.slice (some ⟨g, 0, none⟩) n c) n (nums l)) (k : Nat) (hk : k < l.length) : w.cell? ⟨g, k, none⟩ = some (.int .i64 ((l[k]'hk : Nat) : Int)) :=
  ownsRow_cell h rfl k _ (nums_get l k hk)
theorem row_some {w : World} {base : Nat} {v : Value} {l : List Nat} (h : w.ownsRow base 3 1 v l.length (nums l)) (hp : 0 < l.length) : ∃ g c, v = .slice (some ⟨g, 0, none⟩) l.length c ∧ base ≤ g := by
  obtain ⟨ao, c, rfl, ha⟩ := ownsRow_slice h
  obtain ⟨g, rfl⟩ := ha (by omega)
  obtain ⟨_, _, hb⟩ := ownsRow_blk h (k := g) rfl
  exact ⟨g, c, rfl, hb⟩
/- A copy of a row of numbers, with one of them set. -/
theorem ucopy {w : World} {base : Nat} {v : Value} {l : List Nat} (h : w.ownsRow base 3 1 v l.length (nums l)) (hp : 0 < l.length) (hl : l.length ≤ 128) :
    ∃ g c w', (Builtin.append_ #[28, 28] 28 #[.slice (some ⟨w.heap.size, 0, none⟩) 0 0, v]).run Try.prog (w.alloc (.cells #[] 3)) = .ok (.slice (some ⟨g, 0, none⟩) l.length c) w' ∧ w'.ownsRow w.heap.size 3 1 (.slice (some ⟨g, 0, none⟩) l.length c) l.length (nums l) ∧ w.heap.size ≤ g ∧ Below w.heap.size w w' := by
  obtain ⟨i0, hi, hz0, hz1, hz2⟩ := info_parts info_int
  obtain ⟨a, c, w', hrun, ho, hb⟩ := run_copy_all (P := Try.prog) w base 28 28 3 i0 (.int .i64 0) 1 8 under_ints hi hz0 hz1 hz2 rfl (by decide) v l.length (nums l) h (nums_one l) (by unfold maxLen; omega) (by omega)
  obtain ⟨g, c2, e, hg⟩ := row_some ho hp
  injection e with e1 e2 e3
  injection e1 with e1
  subst e1 e3
  exact ⟨g, c, w', hrun, ho, hg, hb⟩
theorem row_set {w : World} {B : Nat} {g c : Nat} {l : List Nat} (h : w.ownsRow B 3 1 (.slice (some ⟨g, 0, none⟩) l.length c) l.length (nums l)) (k v : Nat) : (w.setCell ⟨g, k, none⟩ (.int .i64 (v : Int))).ownsRow B 3 1 (.slice (some ⟨g, 0, none⟩) l.length c) (l.set k v).length (nums (l.set k v)) := by
  have := ownsRow_store h rfl k (.int .i64 (v : Int))
  rw [← nums_set] at this
  rw [List.length_set]
  exact this
theorem row_fz {w : World} {B : Nat} {g n c : Nat} {l : List Nat} (h : w.ownsRow B 3 1 (.slice (some ⟨g, 0, none⟩) n c) n (nums l)) (k : Nat) : w.frozen? ⟨g, k, none⟩ = false := by
  obtain ⟨cur, hh, _⟩ := ownsRow_blk h (k := g) rfl
  exact block_frozen hh k

set_option maxHeartbeats 1600000 in
theorem rtake_ok {base : Nat} {w : World} {v : Value} {l : List Nat} (h : w.ownsRow base 3 1 v l.length (nums l)) (hl : l.length ≤ 128) (h0 : 0 ∈ l) :
    Calls Try.prog 10 #[v] w fun e w' => ∃ v', e = .returned (.tuple #[v', .int .i64 ((Sp.first l : Nat) : Int), .bool true]) ∧ w'.ownsRow w.heap.size 3 1 v' (Sp.taken l).length (nums (Sp.taken l)) ∧ Below w.heap.size w w' := by
  have hf := Sp.first_lt l h0
  obtain ⟨g2, c2, w2, hrun, ho2, hg2, hb2⟩ := ucopy h (by omega) hl
  obtain ⟨g, c, rfl, _⟩ := row_some h (by omega)
  have hc2 := nums_cell ho2 _ hf
  have hfz := row_fz ho2 (Sp.first l)
  have HO := hide (row_set ho2 (Sp.first l) 2)
  change Hid (World.ownsRow _ _ _ _ _ (Sp.taken l).length (nums (Sp.taken l))) at HO
  have HB := hide (hb2.setCell (p := ⟨g2, Sp.first l, none⟩) hg2 (.int .i64 ((2 : Nat) : Int)))
  have HF0 := hide (Sp.first_get l h0)
  have HFN := hide (Sp.first_not l)
  have HRUN := hide hrun
  have HH := hide h
  generalize Sp.taken l = l2 at *
  obtain ⟨y, hy⟩ : ∃ y, l[Sp.first l]'hf = y := ⟨_, rfl⟩
  rw [hy] at hc2
  clear hy
  obtain ⟨f, hff⟩ : ∃ f, Sp.first l = f := ⟨_, rfl⟩
  simp only [hff] at hf hc2 hfz HO HB HFN
  have HF0' : Hid (∀ h, l[f]'h = 0) := fun h => by
    have := unhide HF0
    simp only [hff] at this
    exact this
  rw [hff]
  obtain ⟨n, hn⟩ : ∃ n, l.length = n := ⟨_, rfl⟩
  have HN := hide hn
  rw [hn] at hf hl HRUN HH HO ⊢
  clear hff hn ho2 hb2 hrun h HF0 h0
  go_enter Try.func10, Try.ntmps10
  go_wp2_with fail
  go_loop [10] (fun i => ∃ k : Nat, k ≤ f ∧ i = .int .i64 k) (fun i => n - (intOf i).toNat)
  case atStart => exact ⟨0, Nat.zero_le _, rfl⟩
  case round =>
    obtain ⟨k, hk, rfl⟩ := hrel
    have hkl : k < l.length := by rw [unhide HN]; omega
    have hck : w.cell? ⟨g, k, none⟩ = some (.int .i64 ((l[k]'hkl : Nat) : Int)) := nums_cell (unhide HH) k hkl
    have i1 : (0 : Int) ≤ (k : Int) := by omega
    have i2 : (k : Int) < (n : Int) := by omega
    by_cases he : k = f
    · subst he
      rw [unhide HF0' hkl] at hck
      go_wp2_with (first | (at_builtin; refine wpList_append_is rfl _ _ 28 rfl _ _ _ _ rfl rfl (unhide HRUN) ?_) | fail)
      clear hck HRUN
      go_wp2_with fail
      refine bodyPost_ret (v := .tuple #[.slice (some ⟨g2, 0, none⟩) n c2, .int .i64 (k : Int), .bool true]) (by simp [results, Try.results10, go_sem]) rfl ⟨_, rfl, unhide HO, unhide HB⟩
    · have hne := unhide HFN k (by omega) hkl
      generalize l[k]'hkl = x at *
      have e2 : ((x : Int) == 0) = false := by simp; omega
      go_wp2_with fail
      go_round
      case rel => exact ⟨k + 1, by omega, by go_num⟩
      case measure => simp [intOf]; omega

set_option maxHeartbeats 1600000 in
theorem rtake_no {base : Nat} {w : World} {v : Value} {l : List Nat} (h : w.ownsRow base 3 1 v l.length (nums l)) (hl : l.length ≤ 128) (hp : 0 < l.length) (h0 : 0 ∉ l) :
    Calls Try.prog 10 #[v] w fun e w' => e = .returned (.tuple #[v, .int .i64 0, .bool false]) ∧ w' = w := by
  obtain ⟨g, c, rfl, _⟩ := row_some h hp
  have HH := hide h
  have H0 : Hid (∀ k (hk : k < l.length), l[k] ≠ 0) := fun k hk e => h0 (by rw [← e]; exact List.getElem_mem hk)
  obtain ⟨n, hn⟩ : ∃ n, l.length = n := ⟨_, rfl⟩
  have HN := hide hn
  rw [hn] at hl HH ⊢
  clear hn h h0
  go_enter Try.func10, Try.ntmps10
  go_wp2_with fail
  go_loop [10] (fun i => ∃ k : Nat, k ≤ n ∧ i = .int .i64 k) (fun i => n - (intOf i).toNat)
  case atStart => exact ⟨0, Nat.zero_le _, rfl⟩
  case round =>
    obtain ⟨k, hk, rfl⟩ := hrel
    by_cases hlt : k < n
    · have hkl : k < l.length := by rw [unhide HN]; omega
      have hck : w.cell? ⟨g, k, none⟩ = some (.int .i64 ((l[k]'hkl : Nat) : Int)) := nums_cell (unhide HH) k hkl
      have i1 : (0 : Int) ≤ (k : Int) := by omega
      have i2 : (k : Int) < (n : Int) := by omega
      have hne := unhide H0 k hkl
      generalize l[k]'hkl = x at *
      have e2 : ((x : Int) == 0) = false := by simp; omega
      go_wp2_with fail
      go_round
      case rel => exact ⟨k + 1, by omega, by go_num⟩
      case measure => simp [intOf]; omega
    · have : k = n := by omega
      subst this
      go_wp2_with fail
      exact bodyPost_ret (v := .tuple #[.slice (some ⟨g, 0, none⟩) k c, .int .i64 0, .bool false]) (by simp [results, Try.results10, go_sem]) rfl ⟨rfl, rfl⟩

set_option maxHeartbeats 1600000 in
theorem rgive_ok {base : Nat} {w : World} {v : Value} {l : List Nat} (h : w.ownsRow base 3 1 v l.length (nums l)) (hl : l.length ≤ 128) (k : Nat) (hk : Sp.mayGive l k = true) :
    Calls Try.prog 12 #[v, .int .i64 (k : Int)] w fun e w' => ∃ v', e = .returned (.tuple #[v', .bool true]) ∧ w'.ownsRow w.heap.size 3 1 v' (Sp.given l k).length (nums (Sp.given l k)) ∧ Below w.heap.size w w' := by
  unfold Sp.mayGive at hk
  rw [Bool.and_eq_true, decide_eq_true_eq] at hk
  obtain ⟨hk, hu⟩ := hk
  obtain ⟨g2, c2, w2, hrun, ho2, hg2, hb2⟩ := ucopy h (by omega) hl
  obtain ⟨g, c, rfl, _⟩ := row_some h (by omega)
  have hc := nums_cell h k hk
  have hcw := nums_cell (ownsRow_below h hb2) k hk
  have hc2 := nums_cell ho2 k hk
  have hfz := row_fz ho2 k
  have e0 : l.getD k 0 = l[k] := by simp [List.getD, hk]
  have HO := hide (row_set ho2 k (if l.getD k 0 = 2 then 0 else 3))
  change Hid (World.ownsRow _ _ _ _ _ (Sp.given l k).length (nums (Sp.given l k))) at HO
  have HB := hide (fun x => hb2.setCell (p := ⟨g2, k, none⟩) hg2 x)
  rw [e0] at hu HO
  have HRUN := hide hrun
  have i1 : (0 : Int) ≤ (k : Int) := by omega
  have i2 : (k : Int) < (l.length : Int) := by omega
  clear ho2 hb2 hrun h e0
  generalize Sp.given l k = l2 at *
  generalize l[k] = y at *
  have hy : y = 1 ∨ y = 2 := by simpa [Sp.use] using hu
  rcases hy with rfl | rfl
  all_goals
    clear hu
    go_enter Try.func12, Try.ntmps12
    go_wp2_with (first | (at_builtin; refine wpList_append_is rfl _ _ 28 rfl _ _ _ _ rfl rfl (unhide HRUN) ?_) | fail)
    clear hc HRUN
    go_wp2_with fail
    refine bodyPost_ret (v := .tuple #[.slice (some ⟨g2, 0, none⟩) l.length c2, .bool true]) (by simp [results, Try.results12, go_sem]) rfl ⟨_, rfl, unhide HO, unhide HB _⟩

set_option maxHeartbeats 1600000 in
theorem rgive_no {base : Nat} {w : World} {v : Value} {l : List Nat} (h : w.ownsRow base 3 1 v l.length (nums l)) (hl : l.length ≤ 128) (hp : 0 < l.length) (i : Int) (hk : stAt l i ≠ 1 ∧ stAt l i ≠ 2) :
    Calls Try.prog 12 #[v, .int .i64 i] w fun e w' => e = .returned (.tuple #[v, .bool false]) ∧ w' = w := by
  obtain ⟨g, c, rfl, _⟩ := row_some h hp
  by_cases h1 : i < 0
  · clear h hk
    go_enter Try.func12, Try.ntmps12
    go_wp2_with fail
    exact bodyPost_ret (v := .tuple #[.slice (some ⟨g, 0, none⟩) l.length c, .bool false]) (by simp [results, Try.results12, go_sem]) rfl ⟨rfl, rfl⟩
  · obtain ⟨k, rfl⟩ : ∃ k : Nat, i = (k : Int) := ⟨i.toNat, by omega⟩
    by_cases h2 : k < l.length
    · rw [stAt_in l k h2] at hk
      have hc := nums_cell h k h2
      have i1 : (0 : Int) ≤ (k : Int) := by omega
      have i2 : (k : Int) < (l.length : Int) := by omega
      clear h
      generalize l[k] = x at *
      obtain ⟨k1, k2⟩ := hk
      have e1 : ((x : Int) != 1) = true := by rw [bne_iff_ne]; exact k1
      have e2 : ((x : Int) != 2) = true := by rw [bne_iff_ne]; exact k2
      go_enter Try.func12, Try.ntmps12
      go_wp2_with fail
      exact bodyPost_ret (v := .tuple #[.slice (some ⟨g, 0, none⟩) l.length c, .bool false]) (by simp [results, Try.results12, go_sem]) rfl ⟨rfl, rfl⟩
    · have i1 : (0 : Int) ≤ (k : Int) := by omega
      have i2 : (l.length : Int) ≤ (k : Int) := by omega
      clear h hk
      go_enter Try.func12, Try.ntmps12
      go_wp2_with fail
      exact bodyPost_ret (v := .tuple #[.slice (some ⟨g, 0, none⟩) l.length c, .bool false]) (by simp [results, Try.results12, go_sem]) rfl ⟨rfl, rfl⟩

def keepF (x : Nat) : Nat := if x = 1 ∨ x = 2 then 1 else 0
set_option maxHeartbeats 1600000 in
theorem rkeep_any {base : Nat} {w : World} {v : Value} {l : List Nat} (h : w.ownsRow base 3 1 v l.length (nums l)) (hl : l.length ≤ 128) (hp : 0 < l.length) :
    Calls Try.prog 14 #[v] w fun e w' => ∃ v', e = .returned v' ∧ w'.ownsRow w.heap.size 3 1 v' (l.map keepF).length (nums (l.map keepF)) ∧ Below w.heap.size w w' := by
  obtain ⟨i0, hi, hz0, hz1, hz2⟩ := info_parts info_int
  obtain ⟨g, c, rfl, _⟩ := row_some h hp
  have HH := hide h
  obtain ⟨n, hn⟩ : ∃ n, l.length = n := ⟨_, rfl⟩
  have HN := hide hn
  rw [hn] at hl HH hp ⊢
  clear hn h
  go_enter Try.func14, Try.ntmps14
  go_wp2_with fail
  go_loopw [3, 9] (fun x i wr => ∃ k : Nat, k ≤ n ∧ i = .int .i64 k ∧ wr.ownsRow w.heap.size 3 1 x k (nums ((l.map keepF).take k)) ∧ Below w.heap.size w wr) (fun _ i _ => n - (intOf i).toNat)
  case atStart => exact ⟨0, Nat.zero_le _, rfl, World.ownsRow_lit w #[] 0 (Nat.le_refl _) (by simp [maxLen]) (by simp), (Below.refl _ _).alloc (Nat.le_refl _) _⟩
  case round =>
    obtain ⟨k, hk, rfl, hown, hbw⟩ := hrel
    have HOWN := hide hown
    have HBW := hide hbw
    by_cases hlt : k < n
    · have hkl : k < l.length := by rw [unhide HN]; omega
      have hck : wr.cell? ⟨g, k, none⟩ = some (.int .i64 ((l[k]'hkl : Nat) : Int)) := nums_cell (ownsRow_below (unhide HH) hbw) k hkl
      have HSN : Hid (nums ((l.map keepF).take (k + 1)) = nums ((l.map keepF).take k) ++ [.int .i64 ((keepF (l[k]'hkl) : Nat) : Int)]) := by
        show nums _ = _
        rw [List.take_succ_eq_append_getElem (by simpa using hkl)]
        simp [nums]
      have i1 : (0 : Int) ≤ (k : Int) := by omega
      have i2 : (k : Int) < (n : Int) := by omega
      generalize l[k]'hkl = y at *
      clear hown hbw
      have hcas : (y = 1 ∨ y = 2) ∨ (¬y = 1 ∧ ¬y = 2) := by omega
      rcases hcas with hy | ⟨y1, y2⟩
      · have HF : Hid (keepF y = 1) := if_pos hy
        rw [unhide HF] at HSN
        rcases hy with rfl | rfl
        all_goals
          go_wp2_with (first | (at_builtin; refine wpList_append_fresh rfl _ _ 28 rfl w.heap.size 3 i0 (.int .i64 0) 1 8 under_ints hi hz0 hz1 hz2 rfl (by decide) _ _ _ rfl ((unhide HOWN).alloc _) ⟨wr.heap.size, 0, none⟩ 1 1 [.int .i64 1] rfl rfl (ucell_new _ _ _) ?c2 ?c3 ?c4 ?c5 ?_) | fail)
          case c2 => intro u hu; simp at hu; subst hu; rfl
          case c3 => unfold maxLen; omega
          case c4 => omega
          case c5 => have := (unhide HBW).size; simp; omega
          intro v' w2 hown' hgrow _
          have hlo := (unhide HOWN).lt
          have hsz := (unhide HBW).size
          have HO2 : Hid (w2.ownsRow w.heap.size 3 1 v' (k + 1) (nums ((l.map keepF).take (k + 1)))) := by
            show World.ownsRow _ _ _ _ _ _ _
            rw [unhide HSN]; exact hown'
          have HB2 : Hid (Below w.heap.size w w2) := ((unhide HBW).alloc hsz _).grown hgrow (by simp; omega) (fun j hj => (hlo j hj).1)
          clear hown' hgrow hlo hck hsz
          go_wp2_with fail
          go_roundw
          case rel => exact ⟨k + 1, by omega, by go_num, unhide HO2, unhide HB2⟩
          case measure => simp [intOf]; omega
      · have HF : Hid (keepF y = 0) := if_neg (by omega)
        rw [unhide HF] at HSN
        have e1 : ((y : Int) == 1) = false := by simp; omega
        have e2 : ((y : Int) == 2) = false := by simp; omega
        go_wp2_with (first | (at_builtin; refine wpList_append_fresh rfl _ _ 28 rfl w.heap.size 3 i0 (.int .i64 0) 1 8 under_ints hi hz0 hz1 hz2 rfl (by decide) _ _ _ rfl ((unhide HOWN).alloc _) ⟨wr.heap.size, 0, none⟩ 1 1 [.int .i64 0] rfl rfl (ucell_new _ _ _) ?c2 ?c3 ?c4 ?c5 ?_) | fail)
        case c2 => intro u hu; simp at hu; subst hu; rfl
        case c3 => unfold maxLen; omega
        case c4 => omega
        case c5 => have := (unhide HBW).size; simp; omega
        intro v' w2 hown' hgrow _
        have hlo := (unhide HOWN).lt
        have hsz := (unhide HBW).size
        have HO2 : Hid (w2.ownsRow w.heap.size 3 1 v' (k + 1) (nums ((l.map keepF).take (k + 1)))) := by
          show World.ownsRow _ _ _ _ _ _ _
          rw [unhide HSN]; exact hown'
        have HB2 : Hid (Below w.heap.size w w2) := ((unhide HBW).alloc hsz _).grown hgrow (by simp; omega) (fun j hj => (hlo j hj).1)
        clear hown' hgrow hlo hck hsz
        go_wp2_with fail
        go_roundw
        case rel => exact ⟨k + 1, by omega, by go_num, unhide HO2, unhide HB2⟩
        case measure => simp [intOf]; omega
    · have : k = n := by omega
      subst this
      clear hown hbw
      have e : (l.map keepF).take k = l.map keepF := List.take_of_length_le (by rw [List.length_map, unhide HN]; exact Nat.le_refl _)
      have e2 : (l.map keepF).length = k := by rw [List.length_map, unhide HN]
      have HO2 := unhide HOWN
      rw [e] at HO2
      rw [← e2] at HO2
      replace HO2 := hide HO2
      clear e
      rw [e2] at HO2
      have HE2 := hide e2
      clear e2
      go_wp2_with fail
      go_ret
      exact ⟨_, rfl, by rw [unhide HE2]; exact unhide HO2, unhide HBW⟩

def undoF (x : Nat) : Nat := if x = 1 ∨ x = 3 then 1 else 0
set_option maxHeartbeats 1600000 in
theorem rundo_any {base : Nat} {w : World} {v : Value} {l : List Nat} (h : w.ownsRow base 3 1 v l.length (nums l)) (hl : l.length ≤ 128) (hp : 0 < l.length) :
    Calls Try.prog 16 #[v] w fun e w' => ∃ v', e = .returned v' ∧ w'.ownsRow w.heap.size 3 1 v' (l.map undoF).length (nums (l.map undoF)) ∧ Below w.heap.size w w' := by
  obtain ⟨i0, hi, hz0, hz1, hz2⟩ := info_parts info_int
  obtain ⟨g, c, rfl, _⟩ := row_some h hp
  have HH := hide h
  obtain ⟨n, hn⟩ : ∃ n, l.length = n := ⟨_, rfl⟩
  have HN := hide hn
  rw [hn] at hl HH hp ⊢
  clear hn h
  go_enter Try.func16, Try.ntmps16
  go_wp2_with fail
  go_loopw [3, 9] (fun x i wr => ∃ k : Nat, k ≤ n ∧ i = .int .i64 k ∧ wr.ownsRow w.heap.size 3 1 x k (nums ((l.map undoF).take k)) ∧ Below w.heap.size w wr) (fun _ i _ => n - (intOf i).toNat)
  case atStart => exact ⟨0, Nat.zero_le _, rfl, World.ownsRow_lit w #[] 0 (Nat.le_refl _) (by simp [maxLen]) (by simp), (Below.refl _ _).alloc (Nat.le_refl _) _⟩
  case round =>
    obtain ⟨k, hk, rfl, hown, hbw⟩ := hrel
    have HOWN := hide hown
    have HBW := hide hbw
    by_cases hlt : k < n
    · have hkl : k < l.length := by rw [unhide HN]; omega
      have hck : wr.cell? ⟨g, k, none⟩ = some (.int .i64 ((l[k]'hkl : Nat) : Int)) := nums_cell (ownsRow_below (unhide HH) hbw) k hkl
      have HSN : Hid (nums ((l.map undoF).take (k + 1)) = nums ((l.map undoF).take k) ++ [.int .i64 ((undoF (l[k]'hkl) : Nat) : Int)]) := by
        show nums _ = _
        rw [List.take_succ_eq_append_getElem (by simpa using hkl)]
        simp [nums]
      have i1 : (0 : Int) ≤ (k : Int) := by omega
      have i2 : (k : Int) < (n : Int) := by omega
      generalize l[k]'hkl = y at *
      clear hown hbw
      have hcas : (y = 1 ∨ y = 3) ∨ (¬y = 1 ∧ ¬y = 3) := by omega
      rcases hcas with hy | ⟨y1, y2⟩
      · have HF : Hid (undoF y = 1) := if_pos hy
        rw [unhide HF] at HSN
        rcases hy with rfl | rfl
        all_goals
          go_wp2_with (first | (at_builtin; refine wpList_append_fresh rfl _ _ 28 rfl w.heap.size 3 i0 (.int .i64 0) 1 8 under_ints hi hz0 hz1 hz2 rfl (by decide) _ _ _ rfl ((unhide HOWN).alloc _) ⟨wr.heap.size, 0, none⟩ 1 1 [.int .i64 1] rfl rfl (ucell_new _ _ _) ?c2 ?c3 ?c4 ?c5 ?_) | fail)
          case c2 => intro u hu; simp at hu; subst hu; rfl
          case c3 => unfold maxLen; omega
          case c4 => omega
          case c5 => have := (unhide HBW).size; simp; omega
          intro v' w2 hown' hgrow _
          have hlo := (unhide HOWN).lt
          have hsz := (unhide HBW).size
          have HO2 : Hid (w2.ownsRow w.heap.size 3 1 v' (k + 1) (nums ((l.map undoF).take (k + 1)))) := by
            show World.ownsRow _ _ _ _ _ _ _
            rw [unhide HSN]; exact hown'
          have HB2 : Hid (Below w.heap.size w w2) := ((unhide HBW).alloc hsz _).grown hgrow (by simp; omega) (fun j hj => (hlo j hj).1)
          clear hown' hgrow hlo hck hsz
          go_wp2_with fail
          go_roundw
          case rel => exact ⟨k + 1, by omega, by go_num, unhide HO2, unhide HB2⟩
          case measure => simp [intOf]; omega
      · have HF : Hid (undoF y = 0) := if_neg (by omega)
        rw [unhide HF] at HSN
        have e1 : ((y : Int) == 1) = false := by simp; omega
        have e2 : ((y : Int) == 3) = false := by simp; omega
        go_wp2_with (first | (at_builtin; refine wpList_append_fresh rfl _ _ 28 rfl w.heap.size 3 i0 (.int .i64 0) 1 8 under_ints hi hz0 hz1 hz2 rfl (by decide) _ _ _ rfl ((unhide HOWN).alloc _) ⟨wr.heap.size, 0, none⟩ 1 1 [.int .i64 0] rfl rfl (ucell_new _ _ _) ?c2 ?c3 ?c4 ?c5 ?_) | fail)
        case c2 => intro u hu; simp at hu; subst hu; rfl
        case c3 => unfold maxLen; omega
        case c4 => omega
        case c5 => have := (unhide HBW).size; simp; omega
        intro v' w2 hown' hgrow _
        have hlo := (unhide HOWN).lt
        have hsz := (unhide HBW).size
        have HO2 : Hid (w2.ownsRow w.heap.size 3 1 v' (k + 1) (nums ((l.map undoF).take (k + 1)))) := by
          show World.ownsRow _ _ _ _ _ _ _
          rw [unhide HSN]; exact hown'
        have HB2 : Hid (Below w.heap.size w w2) := ((unhide HBW).alloc hsz _).grown hgrow (by simp; omega) (fun j hj => (hlo j hj).1)
        clear hown' hgrow hlo hck hsz
        go_wp2_with fail
        go_roundw
        case rel => exact ⟨k + 1, by omega, by go_num, unhide HO2, unhide HB2⟩
        case measure => simp [intOf]; omega
    · have : k = n := by omega
      subst this
      clear hown hbw
      have e : (l.map undoF).take k = l.map undoF := List.take_of_length_le (by rw [List.length_map, unhide HN]; exact Nat.le_refl _)
      have e2 : (l.map undoF).length = k := by rw [List.length_map, unhide HN]
      have HO2 := unhide HOWN
      rw [e] at HO2
      rw [← e2] at HO2
      replace HO2 := hide HO2
      clear e
      rw [e2] at HO2
      have HE2 := hide e2
      clear e2
      go_wp2_with fail
      go_ret
      exact ⟨_, rfl, by rw [unhide HE2]; exact unhide HO2, unhide HBW⟩
end Go.Proofs.Ytemffpkpalncgaa
