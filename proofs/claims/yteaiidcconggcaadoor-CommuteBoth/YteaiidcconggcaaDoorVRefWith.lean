/- The contract of the document's With. -/
import Derived.Test.YteaiidcconggcaaDoorVTold
import Derived.Test.YteaiidcconggcaaDoorVRefCheck
namespace Go.Proofs.YteaiidcconggcaaDoor
open Go.RowKit
set_option linter.unusedVariables false
set_option maxRecDepth 100000

/- A row more, ahead of the first whose key is above its. -/
def putF (r : List UInt8 × List UInt8) : List (List UInt8 × List UInt8) → List (List UInt8 × List UInt8)
  | [] => [r]
  | x :: t => if Codec.lt r.1 x.1 = true then r :: x :: t else x :: putF r t
def putG (kd : Int) (r : List UInt8 × List UInt8) (l : List (List UInt8 × List UInt8)) : List (List UInt8 × List UInt8) := if kd = 6 then l ++ [r] else putF r l
def VS.rwith (s : VS) (r : List UInt8 × List UInt8) : VS := ⟨s.kind, s.n, putG s.kind r s.rows⟩
/- How far it is: what has been laid, and what is still to come, are the whole. -/
def Half (kd : Int) (r : List UInt8 × List UInt8) (rows out : List (List UInt8 × List UInt8)) (k : Nat) (dn : Bool) : Prop :=
  if dn then putG kd r rows = out ++ rows.drop k else out = rows.take k ∧ putG kd r rows = rows.take k ++ putG kd r (rows.drop k)
theorem Half.start (kd : Int) (r : List UInt8 × List UInt8) (rows : List (List UInt8 × List UInt8)) : Half kd r rows [] 0 false := ⟨rfl, rfl⟩
theorem Half.on {kd : Int} {r : List UInt8 × List UInt8} {rows out : List (List UInt8 × List UInt8)} {k : Nat} (h : Half kd r rows out k true) (hk : k < rows.length) : Half kd r rows (out ++ [rows[k]'hk]) (k + 1) true := by
  have h' : putG kd r rows = out ++ rows.drop k := h
  show putG kd r rows = _
  rw [h', List.drop_eq_getElem_cons hk]
  simp
theorem Half.by {kd : Int} {r : List UInt8 × List UInt8} {rows out : List (List UInt8 × List UInt8)} {k : Nat} (h : Half kd r rows out k false) (hk : k < rows.length) (hn : kd = 6 ∨ Codec.lt r.1 (rows[k]'hk).1 = false) : Half kd r rows (out ++ [rows[k]'hk]) (k + 1) false := by
  obtain ⟨h1, h2⟩ := (show out = rows.take k ∧ putG kd r rows = rows.take k ++ putG kd r (rows.drop k) from h)
  have e : putG kd r (rows.drop k) = rows[k]'hk :: putG kd r (rows.drop (k + 1)) := by
    rw [List.drop_eq_getElem_cons hk]
    unfold putG
    by_cases h6 : kd = 6
    · rw [if_pos h6, if_pos h6]; rfl
    · rw [if_neg h6, if_neg h6]
      show (if Codec.lt r.1 (rows[k]'hk).1 = true then _ else _) = _
      rw [if_neg (by rw [hn.resolve_left h6]; simp)]
  refine ⟨by rw [h1, List.take_succ_eq_append_getElem hk], ?_⟩
  rw [h2, e, List.take_succ_eq_append_getElem hk, List.append_assoc]
  rfl
theorem Half.here {kd : Int} {r : List UInt8 × List UInt8} {rows out : List (List UInt8 × List UInt8)} {k : Nat} (h : Half kd r rows out k false) (hk : k < rows.length) (h6 : kd ≠ 6) (hl : Codec.lt r.1 (rows[k]'hk).1 = true) : Half kd r rows (out ++ [r] ++ [rows[k]'hk]) (k + 1) true := by
  obtain ⟨h1, h2⟩ := (show out = rows.take k ∧ putG kd r rows = rows.take k ++ putG kd r (rows.drop k) from h)
  show putG kd r rows = _
  have e : putG kd r (rows.drop k) = r :: rows[k]'hk :: rows.drop (k + 1) := by
    rw [List.drop_eq_getElem_cons hk]
    unfold putG
    rw [if_neg h6]
    show (if Codec.lt r.1 (rows[k]'hk).1 = true then _ else _) = _
    rw [if_pos hl]
  rw [h2, e, h1]
  simp
theorem Half.last {kd : Int} {r : List UInt8 × List UInt8} {rows out : List (List UInt8 × List UInt8)} (h : Half kd r rows out rows.length false) : putG kd r rows = out ++ [r] := by
  obtain ⟨h1, h2⟩ := (show out = rows.take rows.length ∧ putG kd r rows = rows.take rows.length ++ putG kd r (rows.drop rows.length) from h)
  rw [h2, h1, List.drop_length]
  unfold putG putF
  split <;> rfl
theorem Half.full {kd : Int} {r : List UInt8 × List UInt8} {rows out : List (List UInt8 × List UInt8)} (h : Half kd r rows out rows.length true) : putG kd r rows = out := by
  have h' : putG kd r rows = out ++ rows.drop rows.length := h
  rw [h', List.drop_length, List.append_nil]
theorem Bw.lower {w wr w' : World} {kd n sl x y : Value} (h : Bw w kd n sl x y wr) (hb : Below (w.heap.size + 1 + 1 + 1) wr w') : Bw w kd n sl x y w' := by
  have hs := h.size
  obtain ⟨t1, h1⟩ := h.st
  obtain ⟨t2, h2⟩ := h.row
  obtain ⟨a, b, c, t3, h3⟩ := h.res
  exact ⟨h.low.trans (hb.mono (by omega)), Nat.le_trans hs hb.size, ⟨t1, (hb.block _ (by omega)).trans h1⟩, ⟨t2, (hb.block _ (by omega)).trans h2⟩, ⟨a, b, c, t3, (hb.block _ (by omega)).trans h3⟩⟩
theorem own_none (w : World) (base : Nat) (e : TypeId) (hb : base ≤ w.heap.size) {g : Nat} (hg : w.heap.size = g) : (w.alloc (.cells #[] e)).ownsRow base e 2 (.slice (some ⟨g, 0, none⟩) 0 0) 0 [] := by
  subst hg
  exact ⟨rfl, Or.inr ⟨w.heap.size, 0, #[], rfl, hb, heap_alloc_new w _, Nat.le_refl _, Nat.zero_le _, rfl, rfl⟩⟩
/- The end: the new rows are laid beside the state's type and number. -/
theorem Bw.end {w wr : World} {kd n sl x y : Value} (h : Bw w kd n sl x y wr) (a b c : Value) :
    (put3 wr (w.heap.size + 1 + 1) a b c).cell? ⟨w.heap.size + 1 + 1, 0, none⟩ = some a ∧ (put3 wr (w.heap.size + 1 + 1) a b c).cell? ⟨w.heap.size + 1 + 1, 1, none⟩ = some b ∧ (put3 wr (w.heap.size + 1 + 1) a b c).cell? ⟨w.heap.size + 1 + 1, 2, none⟩ = some c ∧
    Below w.heap.size w (put3 wr (w.heap.size + 1 + 1) a b c) ∧ (∀ (u : Value) (nn : Nat) (xs : List Value) (e : TypeId), wr.ownsRow (w.heap.size + 1 + 1 + 1) e 2 u nn xs → (put3 wr (w.heap.size + 1 + 1) a b c).ownsRow w.heap.size e 2 u nn xs) ∧
    (∃ a0, wr.cell? ⟨w.heap.size + 1 + 1, 0, none⟩ = some a0) ∧ (∃ a0, wr.cell? ⟨w.heap.size + 1 + 1, 1, none⟩ = some a0) ∧ (∃ a0, wr.cell? ⟨w.heap.size + 1 + 1, 2, none⟩ = some a0) := by
  obtain ⟨a0, b0, c0, t3, h3⟩ := h.res
  obtain ⟨p0, p1, p2⟩ := put3_cells h3 a b c
  refine ⟨p0, p1, p2, ⟨h.low.os, h.low.tape, h.low.output, by rw [put3_size]; exact h.low.size, fun k hk => ?_⟩, fun u nn xs e hu => ownsRow_less (ownsRow_same hu fun k hk => ?_) (by omega), ⟨a0, by rw [block_cell h3]; rfl⟩, ⟨b0, by rw [block_cell h3]; rfl⟩, ⟨c0, by rw [block_cell h3]; rfl⟩⟩
  · rw [put3_other _ _ _ _ (by omega)]; exact h.low.block k hk
  · have := (hu.lt k hk).1
    rw [put3_other _ _ _ _ (by omega)]

set_option maxHeartbeats 6400000 in
theorem rwith_any {w : World} {v : Value} {s : VS} (h : StAt w v s) (hs : s.rows.length ≤ 1000) (r : List UInt8 × List UInt8) :
    Calls Tryd.prog 55 #[v, .agg #[.string (S r.1), .string (S r.2)]] w fun e w' => ∃ v', e = .returned v' ∧ StOwn w.heap.size 77 w' v' (s.rwith r) ∧ Below w.heap.size w w' := by
  obtain ⟨i0, hi, hz0, hz1, hz2⟩ := info_parts info_rrow
  obtain ⟨k0, rfl, hr⟩ := h
  obtain ⟨a, c, rfl, hc, hm⟩ := hr.shape
  unfold maxLen at hm
  obtain ⟨x, y⟩ := r
  obtain ⟨kd, n, rows⟩ := s
  dsimp only at *
  have HROW := hide hr
  have hrw : VS.rwith ⟨kd, n, rows⟩ (x, y) = ⟨kd, n, putG kd (x, y) rows⟩ := rfl
  rw [hrw]
  have HST := hide (Bw.start w (.int .i64 kd) (.int .i64 n) (.slice a rows.length c) (.string (S x)) (.string (S y)) (.int .i64 0) (.int .i64 0) (.slice none 0 0) 38 77 38)
  have HHS := hide (Half.start kd (x, y) rows)
  clear hr hrw
  go_enter Tryd.func55, Tryd.ntmps55
  go_wp2_with fail
  go_loopw [5, 6, 13] (fun o d i wr => ∃ (k : Nat) (out : List (List UInt8 × List UInt8)) (dn : Bool), k ≤ rows.length ∧ i = .int .i64 (k : Int) ∧ d = .bool dn ∧ wr.ownsRow (w.heap.size + 1 + 1 + 1) 77 2 o out.length (R9 out) ∧ Bw w (.int .i64 kd) (.int .i64 n) (.slice a rows.length c) (.string (S x)) (.string (S y)) wr ∧ out.length ≤ k + 1 ∧ Half kd (x, y) rows out k dn) (fun _ _ i _ => rows.length - (intOf i).toNat)
  case atStart => exact ⟨0, [], false, Nat.zero_le _, rfl, rfl, own_none _ _ _ (unhide HST).size (by simp), (unhide HST).below (under_box _), by simp, unhide HHS⟩
  case round =>
    obtain ⟨k, out, dn, hk, rfl, rfl, hown, hbw, hlo, hhf⟩ := hrel
    obtain ⟨oa, oc, rfl, _⟩ := ownsRow_slice hown
    have HOW := hide hown
    have HBW := hide hbw
    have HLO := hide hlo
    have HLK : Hid (dn = false → out.length ≤ k) := fun e => by subst e; rw [hhf.1]; simp; omega
    have hlow := hbw.low
    have HSZ : Hid (w.heap.size + 1 + 1 + 1 ≤ wr.heap.size) := hbw.size
    by_cases hlt : k < rows.length
    · obtain ⟨b, off, rfl, hbl, e1, e2⟩ := (unhide HROW).at k hlt
      rw [← hlow.cell (p := ⟨b, off + k * 2, none⟩) hbl] at e1
      rw [← hlow.cell (p := ⟨b, off + k * 2 + 1, none⟩) hbl] at e2
      have hne : wr.heap.size ≠ b := by have := hlow.size; omega
      have HON : Hid (dn = true → Half kd (x, y) rows (out ++ [rows[k]'hlt]) (k + 1) true) := fun e => by subst e; exact hhf.on hlt
      have HBY : Hid (dn = false → (kd = 6 ∨ Codec.lt x (rows[k]'hlt).1 = false) → Half kd (x, y) rows (out ++ [rows[k]'hlt]) (k + 1) false) := fun e h => by subst e; exact hhf.by hlt h
      have HHE : Hid (dn = false → kd ≠ 6 → Codec.lt x (rows[k]'hlt).1 = true → Half kd (x, y) rows (out ++ [(x, y)] ++ [rows[k]'hlt]) (k + 1) true) := fun e h6 hl => by subst e; exact hhf.here hlt h6 hl
      generalize rows[k]'hlt = r at *
      obtain ⟨p, q⟩ := r
      dsimp only at *
      have A0 := fun o => (hbw.below (under_box o)).facts
      have s0 := fun o => (A0 o).1.1
      have r0 := fun o => (A0 o).2.1.1
      have r1 := fun o => (A0 o).2.1.2
      have hi0 : (0 : Int) ≤ (k : Int) := by omega
      have hi1 : (k : Int) < ((rows.length : Nat) : Int) := by omega
      have hg := S_gt p x
      clear A0 hhf hlow hown hbw HST HHS HROW
      cases dn
      · by_cases h6 : kd = 6
        · have e6 : (kd != 6) = false := by rw [h6]; rfl
          have HF := hide (unhide HBY rfl (Or.inl h6))
          clear HBY HHE HON h6 hg
          go_wp2_with (first | (at_builtin; refine wpList_append_fresh rfl _ _ 36 rfl (w.heap.size + 1 + 1 + 1) 77 i0 (.agg #[.string ⟨#[]⟩, .string ⟨#[]⟩]) 2 32 under_rrows hi hz0 hz1 hz2 rfl (by decide) _ _ _ rfl (((unhide HOW).alloc _).alloc _) ⟨wr.heap.size + 1, 0, none⟩ 1 1 [.string (S p), .string (S q)] rfl rfl (by have := pair_new (wr.alloc (.cells #[.string (S p), .string (S q)] 77)) (.string (S p)) (.string (S q)) 77; first | exact this | rwa [World.size_alloc] at this) ?c2 ?c3 ?c4 ?c5 ?_) | fail)
          case c2 => first | (intro u hu; simp at hu; rcases hu with rfl | rfl <;> rfl) | exact ⟨rfl, rfl⟩
          case c3 => unfold maxLen; omega
          case c4 => omega
          case c5 => first | (have := unhide HSZ; simp; omega) | (simp; omega) | omega
          intro v' w2 hown' hgrow _
          obtain ⟨va, vc, rfl, _⟩ := ownsRow_slice hown'
          have hb2 : Below (w.heap.size + 1 + 1 + 1) wr w2 := (((Below.refl (w.heap.size + 1 + 1 + 1) wr).alloc (unhide HSZ) _).alloc (by have := unhide HSZ; simp; omega) _).grown hgrow (by have := unhide HSZ; simp; omega) (fun j hj => ((unhide HOW).lt j hj).1)
          have HB2 := hide ((unhide HBW).lower hb2)
          have HN : Hid (w2.ownsRow (w.heap.size + 1 + 1 + 1) 77 2 (.slice va (out.length + 1) vc) (out ++ [(p, q)]).length (R9 (out ++ [(p, q)]))) := by
            show World.ownsRow _ _ _ _ _ _ _
            rw [List.length_append, R9_append]
            exact hown'
          clear hown' hgrow hb2
          go_wp2_with fail
          go_roundw
          case rel => exact ⟨k + 1, _, false, by omega, by go_num, rfl, by simpa using unhide HN, unhide HB2, by have := unhide HLO; simp; omega, unhide HF⟩
          case measure => simp [intOf]; omega
        · have e6 : (kd != 6) = true := by rw [bne_iff_ne]; exact h6
          cases hl : Codec.lt x p
          · rw [hl] at hg
            have hg2 : (!Op.bytesLess (S p).toList (S x).toList && !(S p).toList == (S x).toList) = false := by rw [← hg]; simp
            have HF := hide (unhide HBY rfl (Or.inr hl))
            clear HBY HHE HON h6 hl
            go_wp2_with (first | (at_builtin; refine wpList_append_fresh rfl _ _ 36 rfl (w.heap.size + 1 + 1 + 1) 77 i0 (.agg #[.string ⟨#[]⟩, .string ⟨#[]⟩]) 2 32 under_rrows hi hz0 hz1 hz2 rfl (by decide) _ _ _ rfl (((unhide HOW).alloc _).alloc _) ⟨wr.heap.size + 1, 0, none⟩ 1 1 [.string (S p), .string (S q)] rfl rfl (by have := pair_new (wr.alloc (.cells #[.string (S p), .string (S q)] 77)) (.string (S p)) (.string (S q)) 77; first | exact this | rwa [World.size_alloc] at this) ?c2 ?c3 ?c4 ?c5 ?_) | fail)
            case c2 => first | (intro u hu; simp at hu; rcases hu with rfl | rfl <;> rfl) | exact ⟨rfl, rfl⟩
            case c3 => unfold maxLen; omega
            case c4 => omega
            case c5 => first | (have := unhide HSZ; simp; omega) | (simp; omega) | omega
            intro v' w2 hown' hgrow _
            obtain ⟨va, vc, rfl, _⟩ := ownsRow_slice hown'
            have hb2 : Below (w.heap.size + 1 + 1 + 1) wr w2 := (((Below.refl (w.heap.size + 1 + 1 + 1) wr).alloc (unhide HSZ) _).alloc (by have := unhide HSZ; simp; omega) _).grown hgrow (by have := unhide HSZ; simp; omega) (fun j hj => ((unhide HOW).lt j hj).1)
            have HB2 := hide ((unhide HBW).lower hb2)
            have HN : Hid (w2.ownsRow (w.heap.size + 1 + 1 + 1) 77 2 (.slice va (out.length + 1) vc) (out ++ [(p, q)]).length (R9 (out ++ [(p, q)]))) := by
              show World.ownsRow _ _ _ _ _ _ _
              rw [List.length_append, R9_append]
              exact hown'
            clear hown' hgrow hb2
            go_wp2_with fail
            go_roundw
            case rel => exact ⟨k + 1, _, false, by omega, by go_num, rfl, by simpa using unhide HN, unhide HB2, by have := unhide HLO; simp; omega, unhide HF⟩
            case measure => simp [intOf]; omega
          · rw [hl] at hg
            have hg2 : (!Op.bytesLess (S p).toList (S x).toList && !(S p).toList == (S x).toList) = true := by rw [← hg]; simp
            have HF := hide (unhide HHE rfl h6 hl)
            clear HBY HHE HON h6 hl
            go_wp2_with (first | (at_builtin; refine wpList_append_fresh rfl _ _ 36 rfl (w.heap.size + 1 + 1 + 1) 77 i0 (.agg #[.string ⟨#[]⟩, .string ⟨#[]⟩]) 2 32 under_rrows hi hz0 hz1 hz2 rfl (by decide) _ _ _ rfl (((unhide HOW).alloc _).alloc _) ⟨wr.heap.size + 1, 0, none⟩ 1 1 [.string (S x), .string (S y)] rfl rfl (by have := pair_new (wr.alloc (.cells #[.string (S p), .string (S q)] 77)) (.string (S x)) (.string (S y)) 77; first | exact this | rwa [World.size_alloc] at this) ?c2 ?c3 ?c4 ?c5 ?_) | fail)
            case c2 => first | (intro u hu; simp at hu; rcases hu with rfl | rfl <;> rfl) | exact ⟨rfl, rfl⟩
            case c3 => unfold maxLen; omega
            case c4 => omega
            case c5 => first | (have := unhide HSZ; simp; omega) | (simp; omega) | omega
            intro v' w2 hown' hgrow _
            obtain ⟨va, vc, rfl, _⟩ := ownsRow_slice hown'
            have hb2 : Below (w.heap.size + 1 + 1 + 1) wr w2 := (((Below.refl (w.heap.size + 1 + 1 + 1) wr).alloc (unhide HSZ) _).alloc (by have := unhide HSZ; simp; omega) _).grown hgrow (by have := unhide HSZ; simp; omega) (fun j hj => ((unhide HOW).lt j hj).1)
            have hxb : w2.heap[wr.heap.size]? = some (.cells #[.string (S p), .string (S q)] 77 (0, 0)) := by
              rw [hgrow.block wr.heap.size (by simp; omega) (fun e => by have := ((unhide HOW).lt _ e.symm).2; omega), Below.heap_alloc _ _ _ (by simp)]
              exact heap_alloc_new wr _
            have x0 : w2.cell? ⟨wr.heap.size, 0, none⟩ = some (.string (S p)) := by rw [block_cell hxb]; rfl
            have x1 : w2.cell? ⟨wr.heap.size, 1, none⟩ = some (.string (S q)) := by rw [block_cell hxb]; rfl
            have HB2 := hide ((unhide HBW).lower hb2)
            have hsz2 : w.heap.size + 1 + 1 + 1 ≤ w2.heap.size := (unhide HB2).size
            have HOW2 := hide hown'
            clear hown' hgrow hb2 hxb e1 e2 s0 r0 r1
            go_wp2_with (first | (at_builtin; refine wpList_append_fresh rfl _ _ 36 rfl (w.heap.size + 1 + 1 + 1) 77 i0 (.agg #[.string ⟨#[]⟩, .string ⟨#[]⟩]) 2 32 under_rrows hi hz0 hz1 hz2 rfl (by decide) _ _ _ rfl ((unhide HOW2).alloc _) ⟨w2.heap.size, 0, none⟩ 1 1 [.string (S p), .string (S q)] rfl rfl (by have := pair_new (w2) (.string (S p)) (.string (S q)) 77; first | exact this | rwa [World.size_alloc] at this) ?c2 ?c3 ?c4 ?c5 ?_) | fail)
            case c2 => first | (intro u hu; simp at hu; rcases hu with rfl | rfl <;> rfl) | exact ⟨rfl, rfl⟩
            case c3 => unfold maxLen; omega
            case c4 => omega
            case c5 => first | (have := unhide HSZ; simp; omega) | (simp; omega) | omega
            intro v' w3 hown' hgrow _
            obtain ⟨ua, uc, rfl, _⟩ := ownsRow_slice hown'
            have hb3 : Below (w.heap.size + 1 + 1 + 1) w2 w3 := ((Below.refl (w.heap.size + 1 + 1 + 1) w2).alloc hsz2 _).grown hgrow (by simp; omega) (fun j hj => ((unhide HOW2).lt j hj).1)
            have HB3 := hide ((unhide HB2).lower hb3)
            have HN : Hid (w3.ownsRow (w.heap.size + 1 + 1 + 1) 77 2 (.slice ua (out.length + 1 + 1) uc) (out ++ [(x, y)] ++ [(p, q)]).length (R9 (out ++ [(x, y)] ++ [(p, q)]))) := by
              show World.ownsRow _ _ _ _ _ _ _
              rw [List.length_append, List.length_append, R9_append, R9_append]
              simpa [R9] using hown'
            clear hown' hgrow hb3
            go_wp2_with fail
            go_roundw
            case rel => exact ⟨k + 1, _, true, by omega, by go_num, rfl, by simpa using unhide HN, unhide HB3, by have := unhide HLK (by first | rfl | trivial); simp; omega, unhide HF⟩
            case measure => simp [intOf]; omega
      · have HF := hide (unhide HON rfl)
        clear HBY HHE HON hg
        go_wp2_with (first | (at_builtin; refine wpList_append_fresh rfl _ _ 36 rfl (w.heap.size + 1 + 1 + 1) 77 i0 (.agg #[.string ⟨#[]⟩, .string ⟨#[]⟩]) 2 32 under_rrows hi hz0 hz1 hz2 rfl (by decide) _ _ _ rfl (((unhide HOW).alloc _).alloc _) ⟨wr.heap.size + 1, 0, none⟩ 1 1 [.string (S p), .string (S q)] rfl rfl (by have := pair_new (wr.alloc (.cells #[.string (S p), .string (S q)] 77)) (.string (S p)) (.string (S q)) 77; first | exact this | rwa [World.size_alloc] at this) ?c2 ?c3 ?c4 ?c5 ?_) | fail)
        case c2 => first | (intro u hu; simp at hu; rcases hu with rfl | rfl <;> rfl) | exact ⟨rfl, rfl⟩
        case c3 => unfold maxLen; omega
        case c4 => omega
        case c5 => first | (have := unhide HSZ; simp; omega) | (simp; omega) | omega
        intro v' w2 hown' hgrow _
        obtain ⟨va, vc, rfl, _⟩ := ownsRow_slice hown'
        have hb2 : Below (w.heap.size + 1 + 1 + 1) wr w2 := (((Below.refl (w.heap.size + 1 + 1 + 1) wr).alloc (unhide HSZ) _).alloc (by have := unhide HSZ; simp; omega) _).grown hgrow (by have := unhide HSZ; simp; omega) (fun j hj => ((unhide HOW).lt j hj).1)
        have HB2 := hide ((unhide HBW).lower hb2)
        have HN : Hid (w2.ownsRow (w.heap.size + 1 + 1 + 1) 77 2 (.slice va (out.length + 1) vc) (out ++ [(p, q)]).length (R9 (out ++ [(p, q)]))) := by
          show World.ownsRow _ _ _ _ _ _ _
          rw [List.length_append, R9_append]
          exact hown'
        clear hown' hgrow hb2
        go_wp2_with fail
        go_roundw
        case rel => exact ⟨k + 1, _, true, by omega, by go_num, rfl, by simpa using unhide HN, unhide HB2, by have := unhide HLO; simp; omega, unhide HF⟩
        case measure => simp [intOf]; omega
    · have hkn : k = rows.length := by omega
      subst hkn
      obtain ⟨⟨p0, p1, p2⟩, ⟨r0, r1⟩, f2, f3⟩ := hbw.facts
      cases dn
      · have HF := hide hhf.last
        clear hhf hown hbw
        go_wp2_with (first | (at_builtin; refine wpList_append_fresh rfl _ _ 36 rfl (w.heap.size + 1 + 1 + 1) 77 i0 (.agg #[.string ⟨#[]⟩, .string ⟨#[]⟩]) 2 32 under_rrows hi hz0 hz1 hz2 rfl (by decide) _ _ _ rfl ((unhide HOW).alloc _) ⟨wr.heap.size, 0, none⟩ 1 1 [.string (S x), .string (S y)] rfl rfl (pair_new wr (.string (S x)) (.string (S y)) 77) ?c2 ?c3 ?c4 ?c5 ?_) | fail)
        case c2 => first | (intro u hu; simp at hu; rcases hu with rfl | rfl <;> rfl) | exact ⟨rfl, rfl⟩
        case c3 => unfold maxLen; omega
        case c4 => omega
        case c5 => have := unhide HSZ; simp; omega
        intro v' w2 hown' hgrow _
        obtain ⟨va, vc, rfl, _⟩ := ownsRow_slice hown'
        have hb2 : Below (w.heap.size + 1 + 1 + 1) wr w2 := ((Below.refl (w.heap.size + 1 + 1 + 1) wr).alloc (unhide HSZ) _).grown hgrow (by have := unhide HSZ; simp; omega) (fun j hj => ((unhide HOW).lt j hj).1)
        have HB2 := hide ((unhide HBW).lower hb2)
        have HN : Hid (w2.ownsRow (w.heap.size + 1 + 1 + 1) 77 2 (.slice va (out.length + 1) vc) (putG kd (x, y) rows).length (R9 (putG kd (x, y) rows))) := by
          show World.ownsRow _ _ _ _ _ _ _
          rw [unhide HF, List.length_append, R9_append]
          exact hown'
        obtain ⟨⟨u0, u1, _⟩, _, _, g3⟩ := (unhide HB2).facts
        obtain ⟨z0, z1, z2, zlow, zown, ⟨y0, hy0⟩, ⟨y1, hy1⟩, ⟨y2, hy2⟩⟩ := (unhide HB2).end (.int .i64 kd) (.int .i64 n) (.slice va (out.length + 1) vc)
        have zo := zown _ _ _ _ (unhide HN)
        unfold put3 at z0 z1 z2 zlow zo
        clear hown' hgrow hb2 p0 p1 p2 r0 r1 f2 f3 zown hlow
        go_wp2_with fail
        exact bodyPost_ret (v := .agg #[.int .i64 kd, .int .i64 n, .slice va (out.length + 1) vc]) (by simp [results, Tryd.results55, go_sem, z0, z1, z2]) rfl ⟨_, rfl, ⟨_, rfl, zo⟩, zlow⟩
      · have hfu := hhf.full
        obtain ⟨z0, z1, z2, zlow, zown, ⟨y0, hy0⟩, ⟨y1, hy1⟩, ⟨y2, hy2⟩⟩ := (unhide HBW).end (.int .i64 kd) (.int .i64 n) (.slice oa out.length oc)
        have zo := zown _ (putG kd (x, y) rows).length (R9 (putG kd (x, y) rows)) _ (by rw [hfu]; exact unhide HOW)
        unfold put3 at z0 z1 z2 zlow zo
        clear hfu hhf hown hbw zown hlow
        go_wp2_with fail
        exact bodyPost_ret (v := .agg #[.int .i64 kd, .int .i64 n, .slice oa out.length oc]) (by simp [results, Tryd.results55, go_sem, z0, z1, z2]) rfl ⟨_, rfl, ⟨_, rfl, zo⟩, zlow⟩
end Go.Proofs.YteaiidcconggcaaDoor
