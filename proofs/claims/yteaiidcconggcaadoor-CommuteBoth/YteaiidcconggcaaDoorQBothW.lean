/- The walk of CommuteBoth. -/
import Derived.Test.YteaiidcconggcaaDoorQMeet
import Derived.Test.YteaiidcconggcaaDoorBundleQ13
import Derived.Test.YteaiidcconggcaaDoorBundleQ14
import Derived.Test.YteaiidcconggcaaDoorBundleA11
import Derived.Test.YteaiidcconggcaaDoorVOpen
import Derived.Deep.DeepCutAuto
namespace Go.Proofs.YteaiidcconggcaaDoor
open Go.RowKit
set_option linter.unusedVariables false
set_option maxRecDepth 100000

theorem qcell7 {w : World} {N : Nat} {a b c d e f g : Value} {t : TypeId} (h : w.heap[N]? = some (.cells [a, b, c, d, e, f, g].toArray t (0, 0))) : w.cell? ⟨N, 0, none⟩ = some a ∧ w.cell? ⟨N, 1, none⟩ = some b ∧ w.cell? ⟨N, 2, none⟩ = some c ∧ w.cell? ⟨N, 3, none⟩ = some d ∧ w.cell? ⟨N, 4, none⟩ = some e ∧ w.cell? ⟨N, 5, none⟩ = some f ∧ w.cell? ⟨N, 6, none⟩ = some g ∧ ∀ j, w.frozen? ⟨N, j, none⟩ = false := by
  obtain ⟨h0, h1, h2, h3, h4, h5, h6⟩ := cells7 h
  exact ⟨h0, h1, h2, h3, h4, h5, h6, fun j => block_frozen h j⟩
theorem qrow7_one (w : World) (o n k m : Int) (a b t : List UInt8) : Row7 (w.alloc (.cells #[.int .i64 o, .string (S a), .string (S b), .int .i64 n, .int .i64 k, .string (S t), .int .i64 m] 41)) (.slice (some ⟨w.heap.size, 0, none⟩) 1 1) [(⟨o, a, b, n⟩, ⟨k, t, m⟩)] :=
  Row7.of_own (World.ownsRow_lit (base := 0) (e := 41) w #[.int .i64 o, .string (S a), .string (S b), .int .i64 n, .int .i64 k, .string (S t), .int .i64 m] 1 (Nat.zero_le _) (by simp [maxLen]) (by simp))
/- A row of steps that lies in one block, as a result of a region's operation. -/
def Res.row7 (L : List Stp) : Res where
  F := fun v w => Row7 w v L ∧ ∃ b n c, v = .slice (some ⟨b, 0, none⟩) n c ∧ b < w.heap.size
  own := fun v => v.ownBlock
  cells := fun _ => []
  n := 0
  len := fun _ _ _ => rfl
  later := fun _ _ _ h hb => ⟨h.1.later hb, by obtain ⟨b, n, c, e, hl⟩ := h.2; exact ⟨b, n, c, e, Nat.lt_of_lt_of_le hl hb.size⟩⟩
  other := fun v w w' q h ho hq => by
    obtain ⟨hr, b, n, c, rfl, hbl⟩ := h
    have hbq : b ≠ q := fun e => hq (by rw [e]; rfl)
    have hlb : b < w'.heap.size := by
      have hh := ho b hbq
      rcases Nat.lt_or_ge b w'.heap.size with g | g
      · exact g
      · rw [Array.getElem?_eq_none g, Array.getElem?_eq_getElem hbl] at hh
        cases hh
    refine ⟨?_, b, n, c, rfl, hlb⟩
    obtain ⟨a', c', e, h1, h2, h0, h3⟩ := hr
    refine ⟨a', c', e, h1, h2, h0, fun i u hu => ?_⟩
    obtain ⟨b2, off, ea, hlt, hc⟩ := h3 i u hu
    injection e with e1 e2 e3
    rw [ea] at e1
    injection e1 with e1
    injection e1 with e1 _ _
    subst e1
    have hh := ho b hbq
    have hlt2 : b < w'.heap.size := by
      rcases Nat.lt_or_ge b w'.heap.size with g | g
      · exact g
      · rw [Array.getElem?_eq_none g, Array.getElem?_eq_getElem hlt] at hh
        cases hh
    have hc2 : w'.cell? ⟨b, off + i, none⟩ = some u := by rw [World.cell?_of_block (w := w) (a := ⟨b, off + i, none⟩) hh]; exact hc
    exact ⟨b, off, ea, hlt2, hc2⟩
  low := fun v w k h hk => by
    obtain ⟨hr, b, n, c, rfl, hbl⟩ := h
    have e2 : b = k := by injection hk
    omega
/- The boxes of the law behind its two steps. -/
structure Zy (w : World) (Q1 Q2 : Nat) (r0 : Int) (l : List UInt8) (r2 : Int) (p q : Stp) (wx : World) : Prop where
  r : wx.heap[w.heap.size + 1 + 1]? = some (.cells #[.int .i64 r0, .string (S l), .int .i64 r2] 26 (0, 0))
  c : wx.heap[Q1]? = some (.cells #[.int .i64 p.1.op, .string (S p.1.a), .string (S p.1.b), .int .i64 p.1.n] 29 (0, 0))
  x : wx.heap[Q1 + 1]? = some (.cells #[.int .i64 p.2.code, .string (S p.2.text), .int .i64 p.2.n] 30 (0, 0))
  d : wx.heap[Q2]? = some (.cells #[.int .i64 q.1.op, .string (S q.1.a), .string (S q.1.b), .int .i64 q.1.n] 29 (0, 0))
  y : wx.heap[Q2 + 1]? = some (.cells #[.int .i64 q.2.code, .string (S q.2.text), .int .i64 q.2.n] 30 (0, 0))
  low : Below w.heap.size w wx
theorem Zy.later {w wx w' : World} {Q1 Q2 : Nat} {r0 r2 : Int} {l : List UInt8} {p q : Stp} (h : Zy w Q1 Q2 r0 l r2 p q wx) (hb : Below wx.heap.size wx w') : Zy w Q1 Q2 r0 l r2 p q w' :=
  ⟨(hb.block _ (block_lt h.r)).trans h.r, (hb.block _ (block_lt h.c)).trans h.c, (hb.block _ (block_lt h.x)).trans h.x, (hb.block _ (block_lt h.d)).trans h.d, (hb.block _ (block_lt h.y)).trans h.y, h.low.trans (hb.mono h.low.size)⟩
set_option maxHeartbeats 102400000 in
theorem qboth_any {w : World} (x0 : Int) (hx0 : I64 x0) (x1 : ByteArray) (hx1 : x1.size ≤ maxLen) (x2 : ByteArray) (hx2 : x2.size ≤ maxLen) (x3 : Int) (hx3 : I64 x3)
    (y0 : Int) (hy0 : I64 y0) (y1 : ByteArray) (hy1 : y1.size ≤ maxLen) (y2 : ByteArray) (hy2 : y2.size ≤ maxLen) (y3 : Int) (hy3 : I64 y3)
    (r0 : Int) (hr0 : I64 r0) (r1 : ByteArray) (hr1 : r1.size ≤ maxLen) (r2 : Int) (hr2 : I64 r2) (u0 : Int) (hu0 : I64 u0) (u1 : ByteArray) (hu1 : u1.size ≤ maxLen) (u2 : Int) (hu2 : I64 u2) (hw : MD w) :
    Calls Tryd.prog 5 #[.agg #[.int .i64 x0, .string x1, .string x2, .int .i64 x3], .agg #[.int .i64 y0, .string y1, .string y2, .int .i64 y3], .agg #[.int .i64 r0, .string r1, .int .i64 r2], .agg #[.int .i64 u0, .string u1, .int .i64 u2]] w fun e w' => e = .returned (.bool true) ∧ Below w.heap.size w w' := by
  have HAW := hide (fun (wz : World) (hb : Below w.heap.size w wz) => qawake_any (hw.later hb))
  have HST1 := hide (fun (wz : World) => lstep_any (w := wz) x0 x3 r0 r2 x1 x2 r1 hx0 hx3 hr0 hr2 hx1 hx2 hr1)
  have HST2 := hide (fun (wz : World) => lstep_any (w := wz) y0 y3 u0 u2 y1 y2 u1 hy0 hy3 hu0 hu2 hy1 hy2 hu1)
  have HMD := hide hw
  have HR2 := hide hr2
  obtain ⟨l, rfl⟩ : ∃ l, r1 = S l := ⟨r1.data.toList, rfl⟩
  have HLL : Hid (l.length ≤ maxLen) := (by simpa [S_size] using hr1 : l.length ≤ maxLen)
  clear hw hx0 hx1 hx2 hx3 hy0 hy1 hy2 hy3 hr0 hr1 hr2 hu0 hu1 hu2
  obtain ⟨W, hW⟩ : ∃ W, (((w.alloc (.cells #[.int .i64 x0, .string x1, .string x2, .int .i64 x3] 24)).alloc (.cells #[.int .i64 y0, .string y1, .string y2, .int .i64 y3] 24)).alloc (.cells #[.int .i64 r0, .string (S l), .int .i64 r2] 26)).alloc (.cells #[.int .i64 u0, .string u1, .int .i64 u2] 26) = W := ⟨_, rfl⟩
  have HF : Hid (W.heap[w.heap.size]? = some (.cells #[.int .i64 x0, .string x1, .string x2, .int .i64 x3] 24 (0, 0)) ∧ W.heap[w.heap.size + 1]? = some (.cells #[.int .i64 y0, .string y1, .string y2, .int .i64 y3] 24 (0, 0)) ∧ W.heap[w.heap.size + 1 + 1]? = some (.cells #[.int .i64 r0, .string (S l), .int .i64 r2] 26 (0, 0)) ∧ W.heap[w.heap.size + 1 + 1 + 1]? = some (.cells #[.int .i64 u0, .string u1, .int .i64 u2] 26 (0, 0)) ∧ Below w.heap.size w W) := by
    show _ ∧ _
    rw [← hW]
    exact qfour_heap w _ _ _ _
  have HFL : Hid (∀ wa wb : World, (wa.heap[w.heap.size]? = some (.cells #[.int .i64 x0, .string x1, .string x2, .int .i64 x3] 24 (0, 0)) ∧ wa.heap[w.heap.size + 1]? = some (.cells #[.int .i64 y0, .string y1, .string y2, .int .i64 y3] 24 (0, 0)) ∧ wa.heap[w.heap.size + 1 + 1]? = some (.cells #[.int .i64 r0, .string (S l), .int .i64 r2] 26 (0, 0)) ∧ wa.heap[w.heap.size + 1 + 1 + 1]? = some (.cells #[.int .i64 u0, .string u1, .int .i64 u2] 26 (0, 0)) ∧ Below w.heap.size w wa) → Below wa.heap.size wa wb → (wb.heap[w.heap.size]? = some (.cells #[.int .i64 x0, .string x1, .string x2, .int .i64 x3] 24 (0, 0)) ∧ wb.heap[w.heap.size + 1]? = some (.cells #[.int .i64 y0, .string y1, .string y2, .int .i64 y3] 24 (0, 0)) ∧ wb.heap[w.heap.size + 1 + 1]? = some (.cells #[.int .i64 r0, .string (S l), .int .i64 r2] 26 (0, 0)) ∧ wb.heap[w.heap.size + 1 + 1 + 1]? = some (.cells #[.int .i64 u0, .string u1, .int .i64 u2] 26 (0, 0)) ∧ Below w.heap.size w wb)) := fun wa wb ⟨f1, f2, f3, f4, f5⟩ hb1 =>
    ⟨(hb1.block _ (block_lt f1)).trans f1, (hb1.block _ (block_lt f2)).trans f2, (hb1.block _ (block_lt f3)).trans f3, (hb1.block _ (block_lt f4)).trans f4, f5.trans (hb1.mono f5.size)⟩
  go_enter Tryd.func5, Tryd.ntmps5
  go_upto_region 1 with fail
  try rw [hW]
  clear hW
  go_wp2_with fail
  refine (unhide HAW _ (unhide HF).2.2.2.2).mono ?_
  rintro e w1 ⟨rfl, hb1⟩
  have HF1 := hide (unhide HFL _ _ (unhide HF) hb1)
  clear hb1 HF HAW
  obtain ⟨d0, d1, d2, d3, _⟩ := cell4 (unhide HF1).1
  obtain ⟨g0, g1, g2, _⟩ := cell3 (unhide HF1).2.2.1
  go_wp2_with fail
  refine (unhide HST1 _).mono ?_
  rintro e w2 ⟨p, rfl, hgp, hb2⟩
  have HGP := hide hgp
  obtain ⟨⟨o1, a1, b1, n1⟩, ⟨c1, t1, m1⟩⟩ := p
  unfold mcV mrV
  dsimp only
  obtain ⟨W3, hW3⟩ : ∃ W3, (w2.alloc (.cells #[.int .i64 o1, .string (S a1), .string (S b1), .int .i64 n1] 29)).alloc (.cells #[.int .i64 c1, .string (S t1), .int .i64 m1] 30) = W3 := ⟨_, rfl⟩
  have hb3 : Below w2.heap.size w2 W3 := by rw [← hW3]; exact under_two w2 _ _
  have HF3 := hide (unhide HFL _ _ (unhide HFL _ _ (unhide HF1) hb2) hb3)
  have HC3 : Hid (W3.heap[w2.heap.size]? = some (.cells #[.int .i64 o1, .string (S a1), .string (S b1), .int .i64 n1] 29 (0, 0))) := by show _ = _; rw [← hW3, Below.heap_alloc _ _ _ (by simp)]; exact heap_alloc_new w2 _
  have HX3 : Hid (W3.heap[w2.heap.size + 1]? = some (.cells #[.int .i64 c1, .string (S t1), .int .i64 m1] 30 (0, 0))) := by
    show _ = _
    rw [← hW3]
    have g := heap_alloc_new (w2.alloc (.cells #[.int .i64 o1, .string (S a1), .string (S b1), .int .i64 n1] 29)) (.cells #[.int .i64 c1, .string (S t1), .int .i64 m1] 30)
    simp only [World.size_alloc] at g
    exact g
  obtain ⟨Q1, hQ1⟩ : ∃ Q1, w2.heap.size = Q1 := ⟨_, rfl⟩
  rw [hQ1] at HC3 HX3
  clear hb2 hb3 hgp HF1 HST1 d0 d1 d2 d3 g0 g1 g2
  go_upto_region 4 with fail
  try rw [hW3]
  try rw [hQ1]
  clear hW3 hQ1
  obtain ⟨d0, d1, d2, d3, _⟩ := cell4 (unhide HF3).2.1
  obtain ⟨g0, g1, g2, _⟩ := cell3 (unhide HF3).2.2.2.1
  go_wp2_with fail
  refine (unhide HST2 _).mono ?_
  rintro e w4 ⟨q, rfl, hgq, hb4⟩
  have HGQ := hide hgq
  obtain ⟨⟨o2, a2, b2, n2⟩, ⟨c2, t2, m2⟩⟩ := q
  unfold mcV mrV
  dsimp only
  obtain ⟨W5, hW5⟩ : ∃ W5, (w4.alloc (.cells #[.int .i64 o2, .string (S a2), .string (S b2), .int .i64 n2] 29)).alloc (.cells #[.int .i64 c2, .string (S t2), .int .i64 m2] 30) = W5 := ⟨_, rfl⟩
  have HZ5 : Hid (Zy w Q1 w4.heap.size r0 l r2 (⟨o1, a1, b1, n1⟩, ⟨c1, t1, m1⟩) (⟨o2, a2, b2, n2⟩, ⟨c2, t2, m2⟩) W5) := by
    have hb5 : Below w4.heap.size w4 W5 := by rw [← hW5]; exact under_two w4 _ _
    have hb := hb4.trans (hb5.mono hb4.size)
    have hf := unhide HFL _ _ (unhide HFL _ _ (unhide HF3) hb4) hb5
    refine ⟨hf.2.2.1, (hb.block _ (block_lt (unhide HC3))).trans (unhide HC3), (hb.block _ (block_lt (unhide HX3))).trans (unhide HX3), ?_, ?_, hf.2.2.2.2⟩
    · rw [← hW5, Below.heap_alloc _ _ _ (by simp)]; exact heap_alloc_new w4 _
    · rw [← hW5]
      have g := heap_alloc_new (w4.alloc (.cells #[.int .i64 o2, .string (S a2), .string (S b2), .int .i64 n2] 29)) (.cells #[.int .i64 c2, .string (S t2), .int .i64 m2] 30)
      simp only [World.size_alloc] at g
      exact g
  obtain ⟨Q2, hQ2⟩ : ∃ Q2, w4.heap.size = Q2 := ⟨_, rfl⟩
  rw [hQ2] at HZ5
  clear hb4 hgq HF3 HC3 HX3 HST2 HFL d0 d1 d2 d3 g0 g1 g2
  go_upto_region 5 with fail
  try rw [hW5]
  try rw [hQ2]
  clear hW5 hQ2
  go_cut [47] (fun bv wx => ∃ cb : Bool, bv = .bool cb ∧ (cb = true → MR.check ⟨r0, l, r2⟩ = 0 ∧ (o1 = 7 → r2 ≤ 1125899906842624)) ∧ Zy w Q1 Q2 r0 l r2 (⟨o1, a1, b1, n1⟩, ⟨c1, t1, m1⟩) (⟨o2, a2, b2, n2⟩, ⟨c2, t2, m2⟩) wx)
  case first =>
    have HMR := hide (fun wz : World => mrcheck_any (w := wz) ⟨r0, l, r2⟩ (unhide HLL))
    unfold mrV at HMR
    dsimp only at HMR
    obtain ⟨p0, p1, p2, _⟩ := cell3 (unhide HZ5).r
    go_wp2_with fail
    refine (unhide HMR _).mono ?_
    rintro e w7 ⟨rfl, hb7⟩
    have Z7 := hide ((unhide HZ5).later hb7)
    clear hb7 HMR p0 p1 p2
    obtain ⟨p0, p1, p2, _⟩ := cell3 (unhide Z7).r
    obtain ⟨d0, d1, d2, d3, _⟩ := cell4 (unhide Z7).c
    by_cases hrc : MR.check ⟨r0, l, r2⟩ = 0
    · have e1 : (MR.check ⟨r0, l, r2⟩ == 0) = true := by rw [hrc]; rfl
      by_cases g1 : 0 ≤ r2
      · by_cases g2 : r2 ≤ 1125899906842624
        · have hbal : o1 = 7 → r2 ≤ 1125899906842624 := fun _ => g2
          have HB := hide hbal
          have HR := hide hrc
          clear hbal
          go_wp2_with fail
          go_meet
          exact ⟨true, by first | rfl | simp [*], fun _ => ⟨unhide HR, unhide HB⟩, unhide Z7⟩
        · by_cases g7 : o1 = 7
          · have e7 : (o1 != 7) = false := by rw [g7]; rfl
            clear hrc
            go_wp2_with fail
            go_meet
            exact ⟨false, by first | rfl | simp [*], fun h => (by cases h), unhide Z7⟩
          · have e7 : (o1 != 7) = true := by simpa using g7
            have HB := hide (show o1 = 7 → r2 ≤ 1125899906842624 from fun h => absurd h g7)
            have HR := hide hrc
            go_wp2_with fail
            go_meet
            exact ⟨true, by first | rfl | simp [*], fun _ => ⟨unhide HR, unhide HB⟩, unhide Z7⟩
      · by_cases g7 : o1 = 7
        · have e7 : (o1 != 7) = false := by rw [g7]; rfl
          clear hrc
          go_wp2_with fail
          go_meet
          exact ⟨false, by first | rfl | simp [*], fun h => (by cases h), unhide Z7⟩
        · have e7 : (o1 != 7) = true := by simpa using g7
          have HB := hide (show o1 = 7 → r2 ≤ 1125899906842624 from fun h => absurd h g7)
          have HR := hide hrc
          go_wp2_with fail
          go_meet
          exact ⟨true, by first | rfl | simp [*], fun _ => ⟨unhide HR, unhide HB⟩, unhide Z7⟩
    · have e1 : (MR.check ⟨r0, l, r2⟩ == 0) = false := by simpa using hrc
      go_wp2_with fail
      go_meet
      exact ⟨false, by first | rfl | simp [*], fun h => (by cases h), unhide Z7⟩
  case rest =>
  obtain ⟨cb, rfl, hcb, hz7⟩ := hcut
  have HCB := hide hcb
  have Z7 := hide hz7
  rename World => w7
  clear hcb hz7 HZ5
  go_upto_if 47 with fail
  go_cut [] (fun wx => Zy w Q1 Q2 r0 l r2 (⟨o1, a1, b1, n1⟩, ⟨c1, t1, m1⟩) (⟨o2, a2, b2, n2⟩, ⟨c2, t2, m2⟩) wx)
  case first =>
    cases cb
    · go_wp2_with fail
      go_meet
      exact unhide Z7
    · obtain ⟨hrc, hbal⟩ := unhide HCB rfl
      obtain ⟨p0, p1, p2, _⟩ := cell3 (unhide Z7).r
      have HLN : Hid (MR.check ⟨r0, l, r2⟩ = 0 → l.length ≤ 24) := fun h => by
        unfold MR.check at h
        dsimp only at h
        split at h
        · cases h
        split at h
        · cases h
        omega
      have HO0 := hide (fun (wz : World) => lown_any (w := wz) ⟨o1, a1, b1, n1⟩ ⟨r0, l, r2⟩)
      have HPO := hide (fun (wz : World) => possible_any (w := wz) (⟨o1, a1, b1, n1⟩, ⟨r0, l, r2⟩) (MC.may_op (unhide HGP).may))
      have HRP := hide (fun (wz : World) => rposs_any (w := wz) (⟨o1, a1, b1, n1⟩, ⟨r0, l, r2⟩) (unhide HGP).may (unhide HLN hrc) hbal (unhide HR2))
      obtain ⟨G0, hG0⟩ : ∃ G0, posM (⟨o1, a1, b1, n1⟩, ⟨r0, l, r2⟩) = G0 := ⟨_, rfl⟩
      rw [hG0] at HPO HRP
      unfold mcV mrV stV at HO0
      unfold stV at HPO
      unfold mcV mrV at HRP
      dsimp only at HO0 HPO HRP
      clear hG0
      have eg : (G0 != G0) = false := by simp
      obtain ⟨W7, hW7⟩ : ∃ W7, w7.alloc (.cells #[.int .i64 r0, .string (S l), .int .i64 r2] 30) = W7 := ⟨_, rfl⟩
      have ZZ : Hid (Zy w Q1 Q2 r0 l r2 (⟨o1, a1, b1, n1⟩, ⟨c1, t1, m1⟩) (⟨o2, a2, b2, n2⟩, ⟨c2, t2, m2⟩) W7) := by show Zy _ _ _ _ _ _ _ _ _; rw [← hW7]; exact (unhide Z7).later (under_box _)
      have ZB : Hid (W7.heap[w7.heap.size]? = some (.cells #[.int .i64 r0, .string (S l), .int .i64 r2] 30 (0, 0))) := by show _ = _; rw [← hW7]; exact heap_alloc_new w7 _
      have hrf : ∀ j, w7.heap.size ≠ w.heap.size + 1 + 1 := fun _ => by have := block_lt (unhide Z7).r; omega
      clear hbal
      go_upto_region 7 with fail
      try rw [hW7]
      clear hW7 hrf p0 p1 p2
      have zc1 := (unhide ZZ).c
      have zz := unhide ZB
      refine regN [.val 49 (Res.plain (.agg #[.int .i64 o1, .string (S a1), .string (S b1), .int .i64 n1]) []), .val 50 (Res.plain (.agg #[.int .i64 r0, .string (S l), .int .i64 r2]) []), .val 51 (Res.plain (.agg #[.int .i64 o1, .string (S a1), .string (S b1), .int .i64 n1, .int .i64 r0, .string (S l), .int .i64 r2]) []), .val 52 (Res.plain (.bool G0) []), .val 53 (Res.plain (.agg #[.int .i64 o1, .string (S a1), .string (S b1), .int .i64 n1]) []), .val 54 (Res.plain (.agg #[.int .i64 r0, .string (S l), .int .i64 r2]) []), .val 55 (Res.plain (.bool G0) []), .val 56 (Res.plain (.bool false) [])] (fun i => if i = 2 then [0, 1] else if i = 3 then [2] else if i = 6 then [4, 5] else if i = 7 then [3, 6] else []) ?_ ?_ ?_ ?_ ?_ ?_ ?_ (fun i hi => ?_) ?_
      · kernel_rfl
      · rfl
      · kernel_rfl
      · kernel_rfl
      · kernel_rfl
      · kernel_rfl
      · kernel_rfl
      · have hc : i = 0 ∨ i = 1 ∨ i = 2 ∨ i = 3 ∨ i = 4 ∨ i = 5 ∨ i = 6 ∨ i = 7 := by have : i < 8 := hi; omega
        clear hi
        rcases hc with rfl | rfl | rfl | rfl | rfl | rfl | rfl | rfl
        · with_reducible refine DoesN.plain (s := 49) (v := .agg #[.int .i64 o1, .string (S a1), .string (S b1), .int .i64 n1]) ?_ ?_
          · rfl
          intro f wz K hb hd hK
          obtain ⟨p0, p1, p2, p3, _⟩ := cell4 ((hb.block _ (block_lt zc1)).trans zc1)
          simp only [setN, upd, Nat.reduceAdd, Nat.reduceEqDiff, reduceIte, List.setIfInBounds_toArray, List.set_cons_zero, List.set_cons_succ] at hK ⊢
          refine wpOp_do rfl (by kernel_rfl) ?_
          unfold Oper.wp execOp
          go_simp
          exact hK _ (Below.refl _ _)
        · with_reducible refine DoesN.plain (s := 50) (v := .agg #[.int .i64 r0, .string (S l), .int .i64 r2]) ?_ ?_
          · rfl
          intro f wz K hb hd hK
          obtain ⟨p0, p1, p2, _⟩ := cell3 ((hb.block _ (block_lt zz)).trans zz)
          simp only [setN, upd, Nat.reduceAdd, Nat.reduceEqDiff, reduceIte, List.setIfInBounds_toArray, List.set_cons_zero, List.set_cons_succ] at hK ⊢
          refine wpOp_do rfl (by kernel_rfl) ?_
          unfold Oper.wp execOp
          go_simp
          exact hK _ (Below.refl _ _)
        · with_reducible refine DoesN.plain (s := 51) (v := .agg #[.int .i64 o1, .string (S a1), .string (S b1), .int .i64 n1, .int .i64 r0, .string (S l), .int .i64 r2]) ?_ ?_
          · rfl
          intro f wz K hb hd hK
          have e0 : f 0 = .agg #[.int .i64 o1, .string (S a1), .string (S b1), .int .i64 n1] := plainAt (s := 49) (cs := []) (hd 0 (by decide)) rfl
          have e1 : f 1 = .agg #[.int .i64 r0, .string (S l), .int .i64 r2] := plainAt (s := 50) (cs := []) (hd 1 (by decide)) rfl
          simp only [setN, upd, Nat.reduceAdd, Nat.reduceEqDiff, reduceIte, List.setIfInBounds_toArray, List.set_cons_zero, List.set_cons_succ] at hK ⊢
          simp only [e0, e1] at hK ⊢
          refine wpOp_do rfl (by kernel_rfl) ?_
          unfold Oper.wp execOp
          go_simp
          refine (unhide HO0 _).mono ?_
          rintro e w' ⟨rfl, hb'⟩
          exact hK _ hb'
        · with_reducible refine DoesN.plain (s := 52) (v := .bool G0) ?_ ?_
          · rfl
          intro f wz K hb hd hK
          have e2 : f 2 = .agg #[.int .i64 o1, .string (S a1), .string (S b1), .int .i64 n1, .int .i64 r0, .string (S l), .int .i64 r2] := plainAt (s := 51) (cs := []) (hd 2 (by decide)) rfl
          simp only [setN, upd, Nat.reduceAdd, Nat.reduceEqDiff, reduceIte, List.setIfInBounds_toArray, List.set_cons_zero, List.set_cons_succ] at hK ⊢
          simp only [e2] at hK ⊢
          refine wpOp_do rfl (by kernel_rfl) ?_
          unfold Oper.wp execOp
          go_simp
          refine (unhide HPO _).mono ?_
          rintro e w' ⟨rfl, hb'⟩
          exact hK _ hb'
        · with_reducible refine DoesN.plain (s := 53) (v := .agg #[.int .i64 o1, .string (S a1), .string (S b1), .int .i64 n1]) ?_ ?_
          · rfl
          intro f wz K hb hd hK
          obtain ⟨p0, p1, p2, p3, _⟩ := cell4 ((hb.block _ (block_lt zc1)).trans zc1)
          simp only [setN, upd, Nat.reduceAdd, Nat.reduceEqDiff, reduceIte, List.setIfInBounds_toArray, List.set_cons_zero, List.set_cons_succ] at hK ⊢
          refine wpOp_do rfl (by kernel_rfl) ?_
          unfold Oper.wp execOp
          go_simp
          exact hK _ (Below.refl _ _)
        · with_reducible refine DoesN.plain (s := 54) (v := .agg #[.int .i64 r0, .string (S l), .int .i64 r2]) ?_ ?_
          · rfl
          intro f wz K hb hd hK
          obtain ⟨p0, p1, p2, _⟩ := cell3 ((hb.block _ (block_lt zz)).trans zz)
          simp only [setN, upd, Nat.reduceAdd, Nat.reduceEqDiff, reduceIte, List.setIfInBounds_toArray, List.set_cons_zero, List.set_cons_succ] at hK ⊢
          refine wpOp_do rfl (by kernel_rfl) ?_
          unfold Oper.wp execOp
          go_simp
          exact hK _ (Below.refl _ _)
        · with_reducible refine DoesN.plain (s := 55) (v := .bool G0) ?_ ?_
          · rfl
          intro f wz K hb hd hK
          have e4 : f 4 = .agg #[.int .i64 o1, .string (S a1), .string (S b1), .int .i64 n1] := plainAt (s := 53) (cs := []) (hd 4 (by decide)) rfl
          have e5 : f 5 = .agg #[.int .i64 r0, .string (S l), .int .i64 r2] := plainAt (s := 54) (cs := []) (hd 5 (by decide)) rfl
          simp only [setN, upd, Nat.reduceAdd, Nat.reduceEqDiff, reduceIte, List.setIfInBounds_toArray, List.set_cons_zero, List.set_cons_succ] at hK ⊢
          simp only [e4, e5] at hK ⊢
          refine wpOp_do rfl (by kernel_rfl) ?_
          unfold Oper.wp execOp
          go_simp
          refine (unhide HRP _).mono ?_
          rintro e w' ⟨rfl, hb'⟩
          exact hK _ hb'
        · with_reducible refine DoesN.plain (s := 56) (v := .bool false) ?_ ?_
          · rfl
          intro f wz K hb hd hK
          have e3 : f 3 = .bool G0 := plainAt (s := 52) (cs := []) (hd 3 (by decide)) rfl
          have e6 : f 6 = .bool G0 := plainAt (s := 55) (cs := []) (hd 6 (by decide)) rfl
          simp only [setN, upd, Nat.reduceAdd, Nat.reduceEqDiff, reduceIte, List.setIfInBounds_toArray, List.set_cons_zero, List.set_cons_succ] at hK ⊢
          simp only [e3, e6] at hK ⊢
          refine wpOp_do rfl (by kernel_rfl) ?_
          unfold Oper.wp execOp
          go_simp
          exact hK _ (Below.refl _ _)
      · intro f wE hbE hv hp hne ho
        have h0 : f 0 = .agg #[.int .i64 o1, .string (S a1), .string (S b1), .int .i64 n1] := plainAt (s := 49) (cs := []) (hv 0) rfl
        have h1 : f 1 = .agg #[.int .i64 r0, .string (S l), .int .i64 r2] := plainAt (s := 50) (cs := []) (hv 1) rfl
        have h2 : f 2 = .agg #[.int .i64 o1, .string (S a1), .string (S b1), .int .i64 n1, .int .i64 r0, .string (S l), .int .i64 r2] := plainAt (s := 51) (cs := []) (hv 2) rfl
        have h3 : f 3 = .bool G0 := plainAt (s := 52) (cs := []) (hv 3) rfl
        have h4 : f 4 = .agg #[.int .i64 o1, .string (S a1), .string (S b1), .int .i64 n1] := plainAt (s := 53) (cs := []) (hv 4) rfl
        have h5 : f 5 = .agg #[.int .i64 r0, .string (S l), .int .i64 r2] := plainAt (s := 54) (cs := []) (hv 5) rfl
        have h6 : f 6 = .bool G0 := plainAt (s := 55) (cs := []) (hv 6) rfl
        have h7 : f 7 = .bool false := plainAt (s := 56) (cs := []) (hv 7) rfl
        simp only [setN, Nat.reduceAdd, List.setIfInBounds_toArray, List.set_cons_zero, List.set_cons_succ]
        simp only [h0, h1, h2, h3, h4, h5, h6, h7]
        clear h0 h1 h2 h3 h4 h5 h6 h7
        have ZN := hide ((unhide ZZ).later hbE)
        clear hv hp hne ho hbE zc1 zz HO0 HPO HRP
        go_wp2_with fail
        go_meet
        exact unhide ZN
  case rest =>
  have HZ8 := hide hcut
  rename World => w8
  clear hcut HR2 HLL
  have HOPS := hide (show okOp o1 ∧ okOp o2 from ⟨MC.may_op (unhide HGP).may, MC.may_op (unhide HGQ).may⟩)
  have HO1 := hide (fun (wz : World) => lown_any (w := wz) ⟨o1, a1, b1, n1⟩ ⟨c1, t1, m1⟩)
  have HO2 := hide (fun (wz : World) => lown_any (w := wz) ⟨o2, a2, b2, n2⟩ ⟨c2, t2, m2⟩)
  have HL8 := hide (unhide HZ8).low
  unfold mcV mrV stV at HO1 HO2
  dsimp only at HO1 HO2
  have zc1 := (unhide HZ8).c
  have zx1 := (unhide HZ8).x
  have zc2 := (unhide HZ8).d
  have zx2 := (unhide HZ8).y
  go_upto_region 9 with fail
  refine regN [.val 57 (Res.plain (.agg #[.int .i64 o1, .string (S a1), .string (S b1), .int .i64 n1]) []), .val 58 (Res.plain (.agg #[.int .i64 c1, .string (S t1), .int .i64 m1]) []), .val 59 (Res.plain (.agg #[.int .i64 o1, .string (S a1), .string (S b1), .int .i64 n1, .int .i64 c1, .string (S t1), .int .i64 m1]) [.int .i64 o1, .string (S a1), .string (S b1), .int .i64 n1, .int .i64 c1, .string (S t1), .int .i64 m1]), .val 60 (Res.plain (.agg #[.int .i64 o2, .string (S a2), .string (S b2), .int .i64 n2]) []), .val 61 (Res.plain (.agg #[.int .i64 c2, .string (S t2), .int .i64 m2]) []), .val 62 (Res.plain (.agg #[.int .i64 o2, .string (S a2), .string (S b2), .int .i64 n2, .int .i64 c2, .string (S t2), .int .i64 m2]) [.int .i64 o2, .string (S a2), .string (S b2), .int .i64 n2, .int .i64 c2, .string (S t2), .int .i64 m2]), .box 14 7 41, .box 15 7 41, .put 2 6, .put 5 7] (fun i => if i = 2 then [0, 1] else if i = 5 then [3, 4] else []) ?_ ?_ ?_ ?_ ?_ ?_ ?_ (fun i hi => ?_) ?_
  · kernel_rfl
  · rfl
  · kernel_rfl
  · kernel_rfl
  · kernel_rfl
  · kernel_rfl
  · kernel_rfl
  · have hc : i = 0 ∨ i = 1 ∨ i = 2 ∨ i = 3 ∨ i = 4 ∨ i = 5 ∨ i = 6 ∨ i = 7 ∨ i = 8 ∨ i = 9 := by have : i < 10 := hi; omega
    clear hi
    rcases hc with rfl | rfl | rfl | rfl | rfl | rfl | rfl | rfl | rfl | rfl
    · with_reducible refine DoesN.plain (s := 57) (v := .agg #[.int .i64 o1, .string (S a1), .string (S b1), .int .i64 n1]) ?_ ?_
      · rfl
      intro f wz K hb hd hK
      obtain ⟨p0, p1, p2, p3, _⟩ := cell4 ((hb.block _ (block_lt zc1)).trans zc1)
      simp only [setN, upd, Nat.reduceAdd, Nat.reduceEqDiff, reduceIte, List.setIfInBounds_toArray, List.set_cons_zero, List.set_cons_succ] at hK ⊢
      refine wpOp_do rfl (by kernel_rfl) ?_
      unfold Oper.wp execOp
      go_simp
      exact hK _ (Below.refl _ _)
    · with_reducible refine DoesN.plain (s := 58) (v := .agg #[.int .i64 c1, .string (S t1), .int .i64 m1]) ?_ ?_
      · rfl
      intro f wz K hb hd hK
      obtain ⟨p0, p1, p2, _⟩ := cell3 ((hb.block _ (block_lt zx1)).trans zx1)
      simp only [setN, upd, Nat.reduceAdd, Nat.reduceEqDiff, reduceIte, List.setIfInBounds_toArray, List.set_cons_zero, List.set_cons_succ] at hK ⊢
      refine wpOp_do rfl (by kernel_rfl) ?_
      unfold Oper.wp execOp
      go_simp
      exact hK _ (Below.refl _ _)
    · with_reducible refine DoesN.val (s := 59) (R := (Res.plain (.agg #[.int .i64 o1, .string (S a1), .string (S b1), .int .i64 n1, .int .i64 c1, .string (S t1), .int .i64 m1]) [.int .i64 o1, .string (S a1), .string (S b1), .int .i64 n1, .int .i64 c1, .string (S t1), .int .i64 m1])) ?_ ?_
      · rfl
      intro f wz K hb hd hK
      have e0 : f 0 = .agg #[.int .i64 o1, .string (S a1), .string (S b1), .int .i64 n1] := plainAt (s := 57) (cs := []) (hd 0 (by decide)) rfl
      have e1 : f 1 = .agg #[.int .i64 c1, .string (S t1), .int .i64 m1] := plainAt (s := 58) (cs := []) (hd 1 (by decide)) rfl
      simp only [setN, upd, Nat.reduceAdd, Nat.reduceEqDiff, reduceIte, List.setIfInBounds_toArray, List.set_cons_zero, List.set_cons_succ] at hK ⊢
      simp only [e0, e1] at hK ⊢
      refine wpOp_do rfl (by kernel_rfl) ?_
      unfold Oper.wp execOp
      go_simp
      refine (unhide HO1 _).mono ?_
      rintro e w' ⟨rfl, hb'⟩
      exact hK _ _ hb' rfl (fun k h => by cases h)
    · with_reducible refine DoesN.plain (s := 60) (v := .agg #[.int .i64 o2, .string (S a2), .string (S b2), .int .i64 n2]) ?_ ?_
      · rfl
      intro f wz K hb hd hK
      obtain ⟨p0, p1, p2, p3, _⟩ := cell4 ((hb.block _ (block_lt zc2)).trans zc2)
      simp only [setN, upd, Nat.reduceAdd, Nat.reduceEqDiff, reduceIte, List.setIfInBounds_toArray, List.set_cons_zero, List.set_cons_succ] at hK ⊢
      refine wpOp_do rfl (by kernel_rfl) ?_
      unfold Oper.wp execOp
      go_simp
      exact hK _ (Below.refl _ _)
    · with_reducible refine DoesN.plain (s := 61) (v := .agg #[.int .i64 c2, .string (S t2), .int .i64 m2]) ?_ ?_
      · rfl
      intro f wz K hb hd hK
      obtain ⟨p0, p1, p2, _⟩ := cell3 ((hb.block _ (block_lt zx2)).trans zx2)
      simp only [setN, upd, Nat.reduceAdd, Nat.reduceEqDiff, reduceIte, List.setIfInBounds_toArray, List.set_cons_zero, List.set_cons_succ] at hK ⊢
      refine wpOp_do rfl (by kernel_rfl) ?_
      unfold Oper.wp execOp
      go_simp
      exact hK _ (Below.refl _ _)
    · with_reducible refine DoesN.val (s := 62) (R := (Res.plain (.agg #[.int .i64 o2, .string (S a2), .string (S b2), .int .i64 n2, .int .i64 c2, .string (S t2), .int .i64 m2]) [.int .i64 o2, .string (S a2), .string (S b2), .int .i64 n2, .int .i64 c2, .string (S t2), .int .i64 m2])) ?_ ?_
      · rfl
      intro f wz K hb hd hK
      have e3 : f 3 = .agg #[.int .i64 o2, .string (S a2), .string (S b2), .int .i64 n2] := plainAt (s := 60) (cs := []) (hd 3 (by decide)) rfl
      have e4 : f 4 = .agg #[.int .i64 c2, .string (S t2), .int .i64 m2] := plainAt (s := 61) (cs := []) (hd 4 (by decide)) rfl
      simp only [setN, upd, Nat.reduceAdd, Nat.reduceEqDiff, reduceIte, List.setIfInBounds_toArray, List.set_cons_zero, List.set_cons_succ] at hK ⊢
      simp only [e3, e4] at hK ⊢
      refine wpOp_do rfl (by kernel_rfl) ?_
      unfold Oper.wp execOp
      go_simp
      refine (unhide HO2 _).mono ?_
      rintro e w' ⟨rfl, hb'⟩
      exact hK _ _ hb' rfl (fun k h => by cases h)
    · with_reducible refine DoesN.box (s := 14) (n := 7) (t := 41) ?_ ?_
      · rfl
      intro f wz K
      refine ⟨[.int .i64 0, .string ⟨#[]⟩, .string ⟨#[]⟩, .int .i64 0, .int .i64 0, .string ⟨#[]⟩, .int .i64 0], rfl, fun hK => ?_⟩
      unfold ptr at hK
      simp only [setN, upd, Nat.reduceAdd, Nat.reduceEqDiff, reduceIte, List.setIfInBounds_toArray, List.set_cons_zero, List.set_cons_succ] at hK ⊢
      refine wpOp_do rfl (by kernel_rfl) ?_
      unfold Oper.wp execOp
      go_simp
      exact hK
    · with_reducible refine DoesN.box (s := 15) (n := 7) (t := 41) ?_ ?_
      · rfl
      intro f wz K
      refine ⟨[.int .i64 0, .string ⟨#[]⟩, .string ⟨#[]⟩, .int .i64 0, .int .i64 0, .string ⟨#[]⟩, .int .i64 0], rfl, fun hK => ?_⟩
      unfold ptr at hK
      simp only [setN, upd, Nat.reduceAdd, Nat.reduceEqDiff, reduceIte, List.setIfInBounds_toArray, List.set_cons_zero, List.set_cons_succ] at hK ⊢
      refine wpOp_do rfl (by kernel_rfl) ?_
      unfold Oper.wp execOp
      go_simp
      exact hK
    · with_reducible refine DoesN.put (c := 2) (b := 6) (s := 59) (R := (Res.plain (.agg #[.int .i64 o1, .string (S a1), .string (S b1), .int .i64 n1, .int .i64 c1, .string (S t1), .int .i64 m1]) [.int .i64 o1, .string (S a1), .string (S b1), .int .i64 n1, .int .i64 c1, .string (S t1), .int .i64 m1])) (s' := 14) (n := 7) (t := 41) ?_ ?_ ?_ ?_
      · rfl
      · rfl
      · rfl
      intro f wz K q ys eb hy hq hF hK
      have ev : f _ = .agg #[.int .i64 o1, .string (S a1), .string (S b1), .int .i64 n1, .int .i64 c1, .string (S t1), .int .i64 m1] := hF
      have ec := ev
      simp only [ec, Res.plain] at hK
      simp only [setN, Nat.reduceAdd, List.setIfInBounds_toArray, List.set_cons_zero, List.set_cons_succ] at hK ⊢
      simp only [ec, eb] at hK ⊢
      match ys, hy with
      | [y1, y2, y3, y4, y5, y6, y7], _ =>
      obtain ⟨d0, d1, d2, d3, d4, d5, d6, fz⟩ := qcell7 hq
      unfold ptr at *
      simp only [putL] at hK
      refine wpOp_do rfl (by kernel_rfl) ?_
      unfold Oper.wp execOp
      go_simp
      exact hK
    · with_reducible refine DoesN.put (c := 5) (b := 7) (s := 62) (R := (Res.plain (.agg #[.int .i64 o2, .string (S a2), .string (S b2), .int .i64 n2, .int .i64 c2, .string (S t2), .int .i64 m2]) [.int .i64 o2, .string (S a2), .string (S b2), .int .i64 n2, .int .i64 c2, .string (S t2), .int .i64 m2])) (s' := 15) (n := 7) (t := 41) ?_ ?_ ?_ ?_
      · rfl
      · rfl
      · rfl
      intro f wz K q ys eb hy hq hF hK
      have ev : f _ = .agg #[.int .i64 o2, .string (S a2), .string (S b2), .int .i64 n2, .int .i64 c2, .string (S t2), .int .i64 m2] := hF
      have ec := ev
      simp only [ec, Res.plain] at hK
      simp only [setN, Nat.reduceAdd, List.setIfInBounds_toArray, List.set_cons_zero, List.set_cons_succ] at hK ⊢
      simp only [ec, eb] at hK ⊢
      match ys, hy with
      | [y1, y2, y3, y4, y5, y6, y7], _ =>
      obtain ⟨d0, d1, d2, d3, d4, d5, d6, fz⟩ := qcell7 hq
      unfold ptr at *
      simp only [putL] at hK
      refine wpOp_do rfl (by kernel_rfl) ?_
      unfold Oper.wp execOp
      go_simp
      exact hK
  · intro f wE hbE hv hp hne ho
    have h0 : f 0 = .agg #[.int .i64 o1, .string (S a1), .string (S b1), .int .i64 n1] := plainAt (s := 57) (cs := []) (hv 0) rfl
    have h1 : f 1 = .agg #[.int .i64 c1, .string (S t1), .int .i64 m1] := plainAt (s := 58) (cs := []) (hv 1) rfl
    have h3 : f 3 = .agg #[.int .i64 o2, .string (S a2), .string (S b2), .int .i64 n2] := plainAt (s := 60) (cs := []) (hv 3) rfl
    have h4 : f 4 = .agg #[.int .i64 c2, .string (S t2), .int .i64 m2] := plainAt (s := 61) (cs := []) (hv 4) rfl
    simp only [setN, Nat.reduceAdd, List.setIfInBounds_toArray, List.set_cons_zero, List.set_cons_succ]
    simp only [h0, h1, h3, h4]
    clear h0 h1 h3 h4
    obtain ⟨qA, eA, gA, bA⟩ := putAt (c := 2) (b := 6) (s := 59) (R := (Res.plain (.agg #[.int .i64 o1, .string (S a1), .string (S b1), .int .i64 n1, .int .i64 c1, .string (S t1), .int .i64 m1]) [.int .i64 o1, .string (S a1), .string (S b1), .int .i64 n1, .int .i64 c1, .string (S t1), .int .i64 m1])) (s' := 14) (n := 7) (t := 41) (hp 8) rfl rfl rfl
    obtain ⟨qB, eB, gB, bB⟩ := putAt (c := 5) (b := 7) (s := 62) (R := (Res.plain (.agg #[.int .i64 o2, .string (S a2), .string (S b2), .int .i64 n2, .int .i64 c2, .string (S t2), .int .i64 m2]) [.int .i64 o2, .string (S a2), .string (S b2), .int .i64 n2, .int .i64 c2, .string (S t2), .int .i64 m2])) (s' := 15) (n := 7) (t := 41) (hp 9) rfl rfl rfl
    have ex : f 2 = .agg #[.int .i64 o1, .string (S a1), .string (S b1), .int .i64 n1, .int .i64 c1, .string (S t1), .int .i64 m1] := factAt (s := 59) (R := (Res.plain (.agg #[.int .i64 o1, .string (S a1), .string (S b1), .int .i64 n1, .int .i64 c1, .string (S t1), .int .i64 m1]) [.int .i64 o1, .string (S a1), .string (S b1), .int .i64 n1, .int .i64 c1, .string (S t1), .int .i64 m1])) (hv 2) rfl
    have ey : f 5 = .agg #[.int .i64 o2, .string (S a2), .string (S b2), .int .i64 n2, .int .i64 c2, .string (S t2), .int .i64 m2] := factAt (s := 62) (R := (Res.plain (.agg #[.int .i64 o2, .string (S a2), .string (S b2), .int .i64 n2, .int .i64 c2, .string (S t2), .int .i64 m2]) [.int .i64 o2, .string (S a2), .string (S b2), .int .i64 n2, .int .i64 c2, .string (S t2), .int .i64 m2])) (hv 5) rfl
    simp only [Res.plain] at bA bB
    simp only [eA, eB, ex, ey, ptr]
    have ZA := hide bA
    have ZB := hide bB
    have HL9 := hide ((unhide HL8).trans (hbE.mono (unhide HL8).size))
    have HCF1 := hide (fun (wz : World) (hb : Below wE.heap.size wE wz) => conflict_any ((unhide HMD).later ((unhide HL9).trans (hb.mono (unhide HL9).size))) (⟨o1, a1, b1, n1⟩, ⟨c1, t1, m1⟩) (⟨o2, a2, b2, n2⟩, ⟨c2, t2, m2⟩) (unhide HOPS).1 (unhide HOPS).2)
    have HCF2 := hide (fun (wz : World) (hb : Below wE.heap.size wE wz) => conflict_any ((unhide HMD).later ((unhide HL9).trans (hb.mono (unhide HL9).size))) (⟨o2, a2, b2, n2⟩, ⟨c2, t2, m2⟩) (⟨o1, a1, b1, n1⟩, ⟨c1, t1, m1⟩) (unhide HOPS).2 (unhide HOPS).1)
    have HAO := hide (fun (wz : World) (hb : Below wE.heap.size wE wz) (v : Value) (hv : Row7 wz v [(⟨o2, a2, b2, n2⟩, ⟨c2, t2, m2⟩)]) => among_one ((unhide HMD).later ((unhide HL9).trans (hb.mono (unhide HL9).size))) (⟨o1, a1, b1, n1⟩, ⟨c1, t1, m1⟩) (⟨o2, a2, b2, n2⟩, ⟨c2, t2, m2⟩) (unhide HOPS).1 (unhide HOPS).2 hv)
    rw [conM_symm (⟨o2, a2, b2, n2⟩, ⟨c2, t2, m2⟩) (⟨o1, a1, b1, n1⟩, ⟨c1, t1, m1⟩)] at HCF2
    obtain ⟨G, hG⟩ : ∃ G, conM (⟨o1, a1, b1, n1⟩, ⟨c1, t1, m1⟩) (⟨o2, a2, b2, n2⟩, ⟨c2, t2, m2⟩) = G := ⟨_, rfl⟩
    rw [hG] at HCF1 HCF2 HAO
    have HYE := hide (fun wz : World => lyes_any (w := wz) G)
    obtain ⟨Y, hY⟩ : ∃ Y : Int, (if G = true then 1 else 0) = Y := ⟨_, rfl⟩
    obtain ⟨J, hJ⟩ : ∃ J : Int, (if G = true then 0 else -1) = J := ⟨_, rfl⟩
    rw [hY] at HYE
    rw [hJ] at HAO
    have eY : IntKind.i64.wrap (Y - 1) = J := by rw [IntKind.wrap_i64, ← hY, ← hJ]; cases G <;> decide
    have eg : (G == G) = true := by simp
    have ej : (J == J) = true := by simp
    unfold stV at HCF1 HCF2 HAO
    dsimp only at HCF1 HCF2 HAO
    clear hv hp hne ho ex ey eA eB hG hY hJ hbE bA bB gA gB
    go_upto_region 10 with fail
    have za := unhide ZA
    have zb := unhide ZB
    refine regN [.val 63 (Res.plain (.agg #[.int .i64 o1, .string (S a1), .string (S b1), .int .i64 n1, .int .i64 c1, .string (S t1), .int .i64 m1]) []), .val 64 (Res.plain (.agg #[.int .i64 o2, .string (S a2), .string (S b2), .int .i64 n2, .int .i64 c2, .string (S t2), .int .i64 m2]) []), .val 65 (Res.plain (.bool G) []), .val 66 (Res.plain (.agg #[.int .i64 o2, .string (S a2), .string (S b2), .int .i64 n2, .int .i64 c2, .string (S t2), .int .i64 m2]) []), .val 67 (Res.plain (.agg #[.int .i64 o1, .string (S a1), .string (S b1), .int .i64 n1, .int .i64 c1, .string (S t1), .int .i64 m1]) []), .val 68 (Res.plain (.bool G) []), .val 69 (Res.plain (.bool true) []), .val 70 (Res.plain (.bool true) []), .val 71 (Res.plain (.agg #[.int .i64 o1, .string (S a1), .string (S b1), .int .i64 n1, .int .i64 c1, .string (S t1), .int .i64 m1]) []), .val 72 (Res.plain (.agg #[.int .i64 o2, .string (S a2), .string (S b2), .int .i64 n2, .int .i64 c2, .string (S t2), .int .i64 m2]) []), .val 73 (Res.row7 [(⟨o2, a2, b2, n2⟩, ⟨c2, t2, m2⟩)]), .val 74 (Res.plain (.int .i64 J) []), .val 75 (Res.plain (.agg #[.int .i64 o1, .string (S a1), .string (S b1), .int .i64 n1, .int .i64 c1, .string (S t1), .int .i64 m1]) []), .val 76 (Res.plain (.agg #[.int .i64 o2, .string (S a2), .string (S b2), .int .i64 n2, .int .i64 c2, .string (S t2), .int .i64 m2]) []), .val 77 (Res.plain (.bool G) []), .val 78 (Res.plain (.int .i64 Y) []), .val 79 (Res.plain (.int .i64 J) []), .val 80 (Res.plain (.bool true) []), .val 81 (Res.plain (.bool true) []), .val 8 (Res.plain (.bool true) [])] (fun i => if i = 2 then [0, 1] else if i = 5 then [3, 4] else if i = 6 then [2, 5] else if i = 7 then [6] else if i = 8 then [7] else if i = 9 then [7] else if i = 10 then [7, 9] else if i = 11 then [7, 8, 10] else if i = 12 then [7] else if i = 13 then [7] else if i = 14 then [7, 12, 13] else if i = 15 then [7, 14] else if i = 16 then [7, 15] else if i = 17 then [7, 11, 16] else if i = 18 then [7, 17] else if i = 19 then [18] else []) ?_ ?_ ?_ ?_ ?_ ?_ ?_ (fun i hi => ?_) ?_
    · kernel_rfl
    · rfl
    · kernel_rfl
    · kernel_rfl
    · kernel_rfl
    · kernel_rfl
    · kernel_rfl
    · have hc : i = 0 ∨ i = 1 ∨ i = 2 ∨ i = 3 ∨ i = 4 ∨ i = 5 ∨ i = 6 ∨ i = 7 ∨ i = 8 ∨ i = 9 ∨ i = 10 ∨ i = 11 ∨ i = 12 ∨ i = 13 ∨ i = 14 ∨ i = 15 ∨ i = 16 ∨ i = 17 ∨ i = 18 ∨ i = 19 := by have : i < 20 := hi; omega
      clear hi
      rcases hc with rfl | rfl | rfl | rfl | rfl | rfl | rfl | rfl | rfl | rfl | rfl | rfl | rfl | rfl | rfl | rfl | rfl | rfl | rfl | rfl
      · with_reducible refine DoesN.plain (s := 63) (v := .agg #[.int .i64 o1, .string (S a1), .string (S b1), .int .i64 n1, .int .i64 c1, .string (S t1), .int .i64 m1]) ?_ ?_
        · rfl
        intro f wz K hb hd hK
        obtain ⟨p0, p1, p2, p3, p4, p5, p6⟩ := cells7 ((hb.block _ (block_lt za)).trans za)
        simp only [setN, upd, Nat.reduceAdd, Nat.reduceEqDiff, reduceIte, List.setIfInBounds_toArray, List.set_cons_zero, List.set_cons_succ] at hK ⊢
        refine wpOp_do rfl (by kernel_rfl) ?_
        unfold Oper.wp execOp
        go_simp
        exact hK _ (Below.refl _ _)
      · with_reducible refine DoesN.plain (s := 64) (v := .agg #[.int .i64 o2, .string (S a2), .string (S b2), .int .i64 n2, .int .i64 c2, .string (S t2), .int .i64 m2]) ?_ ?_
        · rfl
        intro f wz K hb hd hK
        obtain ⟨p0, p1, p2, p3, p4, p5, p6⟩ := cells7 ((hb.block _ (block_lt zb)).trans zb)
        simp only [setN, upd, Nat.reduceAdd, Nat.reduceEqDiff, reduceIte, List.setIfInBounds_toArray, List.set_cons_zero, List.set_cons_succ] at hK ⊢
        refine wpOp_do rfl (by kernel_rfl) ?_
        unfold Oper.wp execOp
        go_simp
        exact hK _ (Below.refl _ _)
      · with_reducible refine DoesN.plain (s := 65) (v := .bool G) ?_ ?_
        · rfl
        intro f wz K hb hd hK
        have e0 : f 0 = .agg #[.int .i64 o1, .string (S a1), .string (S b1), .int .i64 n1, .int .i64 c1, .string (S t1), .int .i64 m1] := plainAt (s := 63) (cs := []) (hd 0 (by decide)) rfl
        have e1 : f 1 = .agg #[.int .i64 o2, .string (S a2), .string (S b2), .int .i64 n2, .int .i64 c2, .string (S t2), .int .i64 m2] := plainAt (s := 64) (cs := []) (hd 1 (by decide)) rfl
        simp only [setN, upd, Nat.reduceAdd, Nat.reduceEqDiff, reduceIte, List.setIfInBounds_toArray, List.set_cons_zero, List.set_cons_succ] at hK ⊢
        simp only [e0, e1] at hK ⊢
        refine wpOp_do rfl (by kernel_rfl) ?_
        unfold Oper.wp execOp
        go_simp
        refine (unhide HCF1 _ ?_).mono ?_
        · exact hb
        rintro e w' ⟨rfl, hb'⟩
        exact hK _ hb'
      · with_reducible refine DoesN.plain (s := 66) (v := .agg #[.int .i64 o2, .string (S a2), .string (S b2), .int .i64 n2, .int .i64 c2, .string (S t2), .int .i64 m2]) ?_ ?_
        · rfl
        intro f wz K hb hd hK
        obtain ⟨p0, p1, p2, p3, p4, p5, p6⟩ := cells7 ((hb.block _ (block_lt zb)).trans zb)
        simp only [setN, upd, Nat.reduceAdd, Nat.reduceEqDiff, reduceIte, List.setIfInBounds_toArray, List.set_cons_zero, List.set_cons_succ] at hK ⊢
        refine wpOp_do rfl (by kernel_rfl) ?_
        unfold Oper.wp execOp
        go_simp
        exact hK _ (Below.refl _ _)
      · with_reducible refine DoesN.plain (s := 67) (v := .agg #[.int .i64 o1, .string (S a1), .string (S b1), .int .i64 n1, .int .i64 c1, .string (S t1), .int .i64 m1]) ?_ ?_
        · rfl
        intro f wz K hb hd hK
        obtain ⟨p0, p1, p2, p3, p4, p5, p6⟩ := cells7 ((hb.block _ (block_lt za)).trans za)
        simp only [setN, upd, Nat.reduceAdd, Nat.reduceEqDiff, reduceIte, List.setIfInBounds_toArray, List.set_cons_zero, List.set_cons_succ] at hK ⊢
        refine wpOp_do rfl (by kernel_rfl) ?_
        unfold Oper.wp execOp
        go_simp
        exact hK _ (Below.refl _ _)
      · with_reducible refine DoesN.plain (s := 68) (v := .bool G) ?_ ?_
        · rfl
        intro f wz K hb hd hK
        have e3 : f 3 = .agg #[.int .i64 o2, .string (S a2), .string (S b2), .int .i64 n2, .int .i64 c2, .string (S t2), .int .i64 m2] := plainAt (s := 66) (cs := []) (hd 3 (by decide)) rfl
        have e4 : f 4 = .agg #[.int .i64 o1, .string (S a1), .string (S b1), .int .i64 n1, .int .i64 c1, .string (S t1), .int .i64 m1] := plainAt (s := 67) (cs := []) (hd 4 (by decide)) rfl
        simp only [setN, upd, Nat.reduceAdd, Nat.reduceEqDiff, reduceIte, List.setIfInBounds_toArray, List.set_cons_zero, List.set_cons_succ] at hK ⊢
        simp only [e3, e4] at hK ⊢
        refine wpOp_do rfl (by kernel_rfl) ?_
        unfold Oper.wp execOp
        go_simp
        refine (unhide HCF2 _ ?_).mono ?_
        · exact hb
        rintro e w' ⟨rfl, hb'⟩
        exact hK _ hb'
      · with_reducible refine DoesN.plain (s := 69) (v := .bool true) ?_ ?_
        · rfl
        intro f wz K hb hd hK
        have e2 : f 2 = .bool G := plainAt (s := 65) (cs := []) (hd 2 (by decide)) rfl
        have e5 : f 5 = .bool G := plainAt (s := 68) (cs := []) (hd 5 (by decide)) rfl
        simp only [setN, upd, Nat.reduceAdd, Nat.reduceEqDiff, reduceIte, List.setIfInBounds_toArray, List.set_cons_zero, List.set_cons_succ] at hK ⊢
        simp only [e2, e5] at hK ⊢
        refine wpOp_do rfl (by kernel_rfl) ?_
        unfold Oper.wp execOp
        go_simp
        exact hK _ (Below.refl _ _)
      · with_reducible refine DoesN.plain (s := 70) (v := .bool true) ?_ ?_
        · rfl
        intro f wz K hb hd hK
        have e6 : f 6 = .bool true := plainAt (s := 69) (cs := []) (hd 6 (by decide)) rfl
        simp only [setN, upd, Nat.reduceAdd, Nat.reduceEqDiff, reduceIte, List.setIfInBounds_toArray, List.set_cons_zero, List.set_cons_succ] at hK ⊢
        simp only [e6] at hK ⊢
        refine wpOp_do rfl (by kernel_rfl) ?_
        unfold Oper.wp execOp
        go_simp
        exact hK _ (Below.refl _ _)
      · with_reducible refine DoesN.plain (s := 71) (v := .agg #[.int .i64 o1, .string (S a1), .string (S b1), .int .i64 n1, .int .i64 c1, .string (S t1), .int .i64 m1]) ?_ ?_
        · rfl
        intro f wz K hb hd hK
        have e7 : f 7 = .bool true := plainAt (s := 70) (cs := []) (hd 7 (by decide)) rfl
        obtain ⟨p0, p1, p2, p3, p4, p5, p6⟩ := cells7 ((hb.block _ (block_lt za)).trans za)
        simp only [setN, upd, Nat.reduceAdd, Nat.reduceEqDiff, reduceIte, List.setIfInBounds_toArray, List.set_cons_zero, List.set_cons_succ] at hK ⊢
        simp only [e7] at hK ⊢
        refine wpOp_do rfl (by kernel_rfl) ?_
        unfold Oper.wp execOp
        go_simp
        exact hK _ (Below.refl _ _)
      · with_reducible refine DoesN.plain (s := 72) (v := .agg #[.int .i64 o2, .string (S a2), .string (S b2), .int .i64 n2, .int .i64 c2, .string (S t2), .int .i64 m2]) ?_ ?_
        · rfl
        intro f wz K hb hd hK
        have e7 : f 7 = .bool true := plainAt (s := 70) (cs := []) (hd 7 (by decide)) rfl
        obtain ⟨p0, p1, p2, p3, p4, p5, p6⟩ := cells7 ((hb.block _ (block_lt zb)).trans zb)
        simp only [setN, upd, Nat.reduceAdd, Nat.reduceEqDiff, reduceIte, List.setIfInBounds_toArray, List.set_cons_zero, List.set_cons_succ] at hK ⊢
        simp only [e7] at hK ⊢
        refine wpOp_do rfl (by kernel_rfl) ?_
        unfold Oper.wp execOp
        go_simp
        exact hK _ (Below.refl _ _)
      · with_reducible refine DoesN.val (s := 73) (R := (Res.row7 [(⟨o2, a2, b2, n2⟩, ⟨c2, t2, m2⟩)])) ?_ ?_
        · rfl
        intro f wz K hb hd hK
        have e7 : f 7 = .bool true := plainAt (s := 70) (cs := []) (hd 7 (by decide)) rfl
        have e9 : f 9 = .agg #[.int .i64 o2, .string (S a2), .string (S b2), .int .i64 n2, .int .i64 c2, .string (S t2), .int .i64 m2] := plainAt (s := 72) (cs := []) (hd 9 (by decide)) rfl
        simp only [setN, upd, Nat.reduceAdd, Nat.reduceEqDiff, reduceIte, List.setIfInBounds_toArray, List.set_cons_zero, List.set_cons_succ] at hK ⊢
        simp only [e7, e9] at hK ⊢
        refine wpOp_do rfl (by kernel_rfl) ?_
        unfold Oper.wp execOp
        go_simp
        refine hK _ _ (under_box _) ⟨qrow7_one wz _ _ _ _ _ _ _, _, _, _, rfl, by simp⟩ (fun k h => Or.inl ?_)
        have h2 : some wz.heap.size = some k := h
        injection h2 with h2
        omega
      · with_reducible refine DoesN.plain (s := 74) (v := .int .i64 J) ?_ ?_
        · rfl
        intro f wz K hb hd hK
        have e7 : f 7 = .bool true := plainAt (s := 70) (cs := []) (hd 7 (by decide)) rfl
        have e8 : f 8 = .agg #[.int .i64 o1, .string (S a1), .string (S b1), .int .i64 n1, .int .i64 c1, .string (S t1), .int .i64 m1] := plainAt (s := 71) (cs := []) (hd 8 (by decide)) rfl
        obtain ⟨hrow73, b73, n73, c73, e10, _⟩ := factAt (s := 73) (R := (Res.row7 [(⟨o2, a2, b2, n2⟩, ⟨c2, t2, m2⟩)])) (hd 10 (by decide)) rfl
        rw [e10] at hrow73
        simp only [setN, upd, Nat.reduceAdd, Nat.reduceEqDiff, reduceIte, List.setIfInBounds_toArray, List.set_cons_zero, List.set_cons_succ] at hK ⊢
        simp only [e7, e8, e10] at hK ⊢
        refine wpOp_do rfl (by kernel_rfl) ?_
        unfold Oper.wp execOp
        go_simp
        refine (unhide HAO _ hb _ hrow73).mono ?_
        rintro e w' ⟨rfl, hb'⟩
        exact hK _ hb'
      · with_reducible refine DoesN.plain (s := 75) (v := .agg #[.int .i64 o1, .string (S a1), .string (S b1), .int .i64 n1, .int .i64 c1, .string (S t1), .int .i64 m1]) ?_ ?_
        · rfl
        intro f wz K hb hd hK
        have e7 : f 7 = .bool true := plainAt (s := 70) (cs := []) (hd 7 (by decide)) rfl
        obtain ⟨p0, p1, p2, p3, p4, p5, p6⟩ := cells7 ((hb.block _ (block_lt za)).trans za)
        simp only [setN, upd, Nat.reduceAdd, Nat.reduceEqDiff, reduceIte, List.setIfInBounds_toArray, List.set_cons_zero, List.set_cons_succ] at hK ⊢
        simp only [e7] at hK ⊢
        refine wpOp_do rfl (by kernel_rfl) ?_
        unfold Oper.wp execOp
        go_simp
        exact hK _ (Below.refl _ _)
      · with_reducible refine DoesN.plain (s := 76) (v := .agg #[.int .i64 o2, .string (S a2), .string (S b2), .int .i64 n2, .int .i64 c2, .string (S t2), .int .i64 m2]) ?_ ?_
        · rfl
        intro f wz K hb hd hK
        have e7 : f 7 = .bool true := plainAt (s := 70) (cs := []) (hd 7 (by decide)) rfl
        obtain ⟨p0, p1, p2, p3, p4, p5, p6⟩ := cells7 ((hb.block _ (block_lt zb)).trans zb)
        simp only [setN, upd, Nat.reduceAdd, Nat.reduceEqDiff, reduceIte, List.setIfInBounds_toArray, List.set_cons_zero, List.set_cons_succ] at hK ⊢
        simp only [e7] at hK ⊢
        refine wpOp_do rfl (by kernel_rfl) ?_
        unfold Oper.wp execOp
        go_simp
        exact hK _ (Below.refl _ _)
      · with_reducible refine DoesN.plain (s := 77) (v := .bool G) ?_ ?_
        · rfl
        intro f wz K hb hd hK
        have e7 : f 7 = .bool true := plainAt (s := 70) (cs := []) (hd 7 (by decide)) rfl
        have e12 : f 12 = .agg #[.int .i64 o1, .string (S a1), .string (S b1), .int .i64 n1, .int .i64 c1, .string (S t1), .int .i64 m1] := plainAt (s := 75) (cs := []) (hd 12 (by decide)) rfl
        have e13 : f 13 = .agg #[.int .i64 o2, .string (S a2), .string (S b2), .int .i64 n2, .int .i64 c2, .string (S t2), .int .i64 m2] := plainAt (s := 76) (cs := []) (hd 13 (by decide)) rfl
        simp only [setN, upd, Nat.reduceAdd, Nat.reduceEqDiff, reduceIte, List.setIfInBounds_toArray, List.set_cons_zero, List.set_cons_succ] at hK ⊢
        simp only [e7, e12, e13] at hK ⊢
        refine wpOp_do rfl (by kernel_rfl) ?_
        unfold Oper.wp execOp
        go_simp
        refine (unhide HCF1 _ ?_).mono ?_
        · exact hb
        rintro e w' ⟨rfl, hb'⟩
        exact hK _ hb'
      · with_reducible refine DoesN.plain (s := 78) (v := .int .i64 Y) ?_ ?_
        · rfl
        intro f wz K hb hd hK
        have e7 : f 7 = .bool true := plainAt (s := 70) (cs := []) (hd 7 (by decide)) rfl
        have e14 : f 14 = .bool G := plainAt (s := 77) (cs := []) (hd 14 (by decide)) rfl
        simp only [setN, upd, Nat.reduceAdd, Nat.reduceEqDiff, reduceIte, List.setIfInBounds_toArray, List.set_cons_zero, List.set_cons_succ] at hK ⊢
        simp only [e7, e14] at hK ⊢
        refine wpOp_do rfl (by kernel_rfl) ?_
        unfold Oper.wp execOp
        go_simp
        refine (unhide HYE _).mono ?_
        rintro e w' ⟨rfl, hb'⟩
        exact hK _ hb'
      · with_reducible refine DoesN.plain (s := 79) (v := .int .i64 J) ?_ ?_
        · rfl
        intro f wz K hb hd hK
        have e7 : f 7 = .bool true := plainAt (s := 70) (cs := []) (hd 7 (by decide)) rfl
        have e15 : f 15 = .int .i64 Y := plainAt (s := 78) (cs := []) (hd 15 (by decide)) rfl
        simp only [setN, upd, Nat.reduceAdd, Nat.reduceEqDiff, reduceIte, List.setIfInBounds_toArray, List.set_cons_zero, List.set_cons_succ] at hK ⊢
        simp only [e7, e15] at hK ⊢
        refine wpOp_do rfl (by kernel_rfl) ?_
        unfold Oper.wp execOp
        go_simp
        exact hK _ (Below.refl _ _)
      · with_reducible refine DoesN.plain (s := 80) (v := .bool true) ?_ ?_
        · rfl
        intro f wz K hb hd hK
        have e7 : f 7 = .bool true := plainAt (s := 70) (cs := []) (hd 7 (by decide)) rfl
        have e11 : f 11 = .int .i64 J := plainAt (s := 74) (cs := []) (hd 11 (by decide)) rfl
        have e16 : f 16 = .int .i64 J := plainAt (s := 79) (cs := []) (hd 16 (by decide)) rfl
        simp only [setN, upd, Nat.reduceAdd, Nat.reduceEqDiff, reduceIte, List.setIfInBounds_toArray, List.set_cons_zero, List.set_cons_succ] at hK ⊢
        simp only [e7, e11, e16] at hK ⊢
        refine wpOp_do rfl (by kernel_rfl) ?_
        unfold Oper.wp execOp
        go_simp
        exact hK _ (Below.refl _ _)
      · with_reducible refine DoesN.plain (s := 81) (v := .bool true) ?_ ?_
        · rfl
        intro f wz K hb hd hK
        have e7 : f 7 = .bool true := plainAt (s := 70) (cs := []) (hd 7 (by decide)) rfl
        have e17 : f 17 = .bool true := plainAt (s := 80) (cs := []) (hd 17 (by decide)) rfl
        simp only [setN, upd, Nat.reduceAdd, Nat.reduceEqDiff, reduceIte, List.setIfInBounds_toArray, List.set_cons_zero, List.set_cons_succ] at hK ⊢
        simp only [e7, e17] at hK ⊢
        refine wpOp_do rfl (by kernel_rfl) ?_
        unfold Oper.wp execOp
        go_simp
        exact hK _ (Below.refl _ _)
      · with_reducible refine DoesN.plain (s := 8) (v := .bool true) ?_ ?_
        · rfl
        intro f wz K hb hd hK
        have e18 : f 18 = .bool true := plainAt (s := 81) (cs := []) (hd 18 (by decide)) rfl
        simp only [setN, upd, Nat.reduceAdd, Nat.reduceEqDiff, reduceIte, List.setIfInBounds_toArray, List.set_cons_zero, List.set_cons_succ] at hK ⊢
        simp only [e18] at hK ⊢
        refine wpOp_do rfl (by kernel_rfl) ?_
        unfold Oper.wp execOp
        go_simp
        exact hK _ (Below.refl _ _)
    · intro f wE hbE hv hp hne ho
      have h0 : f 0 = .agg #[.int .i64 o1, .string (S a1), .string (S b1), .int .i64 n1, .int .i64 c1, .string (S t1), .int .i64 m1] := plainAt (s := 63) (cs := []) (hv 0) rfl
      have h1 : f 1 = .agg #[.int .i64 o2, .string (S a2), .string (S b2), .int .i64 n2, .int .i64 c2, .string (S t2), .int .i64 m2] := plainAt (s := 64) (cs := []) (hv 1) rfl
      have h2 : f 2 = .bool G := plainAt (s := 65) (cs := []) (hv 2) rfl
      have h3 : f 3 = .agg #[.int .i64 o2, .string (S a2), .string (S b2), .int .i64 n2, .int .i64 c2, .string (S t2), .int .i64 m2] := plainAt (s := 66) (cs := []) (hv 3) rfl
      have h4 : f 4 = .agg #[.int .i64 o1, .string (S a1), .string (S b1), .int .i64 n1, .int .i64 c1, .string (S t1), .int .i64 m1] := plainAt (s := 67) (cs := []) (hv 4) rfl
      have h5 : f 5 = .bool G := plainAt (s := 68) (cs := []) (hv 5) rfl
      have h6 : f 6 = .bool true := plainAt (s := 69) (cs := []) (hv 6) rfl
      have h7 : f 7 = .bool true := plainAt (s := 70) (cs := []) (hv 7) rfl
      have h8 : f 8 = .agg #[.int .i64 o1, .string (S a1), .string (S b1), .int .i64 n1, .int .i64 c1, .string (S t1), .int .i64 m1] := plainAt (s := 71) (cs := []) (hv 8) rfl
      have h9 : f 9 = .agg #[.int .i64 o2, .string (S a2), .string (S b2), .int .i64 n2, .int .i64 c2, .string (S t2), .int .i64 m2] := plainAt (s := 72) (cs := []) (hv 9) rfl
      have h11 : f 11 = .int .i64 J := plainAt (s := 74) (cs := []) (hv 11) rfl
      have h12 : f 12 = .agg #[.int .i64 o1, .string (S a1), .string (S b1), .int .i64 n1, .int .i64 c1, .string (S t1), .int .i64 m1] := plainAt (s := 75) (cs := []) (hv 12) rfl
      have h13 : f 13 = .agg #[.int .i64 o2, .string (S a2), .string (S b2), .int .i64 n2, .int .i64 c2, .string (S t2), .int .i64 m2] := plainAt (s := 76) (cs := []) (hv 13) rfl
      have h14 : f 14 = .bool G := plainAt (s := 77) (cs := []) (hv 14) rfl
      have h15 : f 15 = .int .i64 Y := plainAt (s := 78) (cs := []) (hv 15) rfl
      have h16 : f 16 = .int .i64 J := plainAt (s := 79) (cs := []) (hv 16) rfl
      have h17 : f 17 = .bool true := plainAt (s := 80) (cs := []) (hv 17) rfl
      have h18 : f 18 = .bool true := plainAt (s := 81) (cs := []) (hv 18) rfl
      have h19 : f 19 = .bool true := plainAt (s := 8) (cs := []) (hv 19) rfl
      simp only [setN, Nat.reduceAdd, List.setIfInBounds_toArray, List.set_cons_zero, List.set_cons_succ]
      simp only [h0, h1, h2, h3, h4, h5, h6, h7, h8, h9, h11, h12, h13, h14, h15, h16, h17, h18, h19]
      clear h0 h1 h2 h3 h4 h5 h6 h7 h8 h9 h11 h12 h13 h14 h15 h16 h17 h18 h19
      have HL10 := hide ((unhide HL9).trans (hbE.mono (unhide HL9).size))
      clear hv hp hne ho hbE za zb
      go_wp2_with fail
      go_ret
      exact ⟨rfl, unhide HL10⟩
theorem commuteBoth_walk (a00 : Int) (w00 : (Lit.int .i64 a00).wf = true) (a01 : ByteArray) (w01 : a01.size ≤ maxLen) (a02 : ByteArray) (w02 : a02.size ≤ maxLen) (a03 : Int) (w03 : (Lit.int .i64 a03).wf = true)
    (a10 : Int) (w10 : (Lit.int .i64 a10).wf = true) (a11 : ByteArray) (w11 : a11.size ≤ maxLen) (a12 : ByteArray) (w12 : a12.size ≤ maxLen) (a13 : Int) (w13 : (Lit.int .i64 a13).wf = true)
    (a20 : Int) (w20 : (Lit.int .i64 a20).wf = true) (a21 : ByteArray) (w21 : a21.size ≤ maxLen) (a22 : Int) (w22 : (Lit.int .i64 a22).wf = true)
    (a30 : Int) (w30 : (Lit.int .i64 a30).wf = true) (a31 : ByteArray) (w31 : a31.size ≤ maxLen) (a32 : Int) (w32 : (Lit.int .i64 a32).wf = true) (w : World) (hw : MD w) :
    Calls Tryd.prog 5 #[.agg #[.int .i64 a00, .string a01, .string a02, .int .i64 a03], .agg #[.int .i64 a10, .string a11, .string a12, .int .i64 a13], .agg #[.int .i64 a20, .string a21, .int .i64 a22], .agg #[.int .i64 a30, .string a31, .int .i64 a32]] w fun e w' => e = .returned (.bool true) ∧ Below w.heap.size w w' :=
  qboth_any a00 (vwf_i64 w00) a01 w01 a02 w02 a03 (vwf_i64 w03) a10 (vwf_i64 w10) a11 w11 a12 w12 a13 (vwf_i64 w13) a20 (vwf_i64 w20) a21 w21 a22 (vwf_i64 w22) a30 (vwf_i64 w30) a31 w31 a32 (vwf_i64 w32) hw
end Go.Proofs.YteaiidcconggcaaDoor
