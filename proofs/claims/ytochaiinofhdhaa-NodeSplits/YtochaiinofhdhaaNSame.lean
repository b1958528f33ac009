/- The contracts of the law's Told, Same (of nodes that are alike), Leaf. -/
import Derived.Test.YtochaiinofhdhaaNMake
import Derived.Test.YtochaiinofhdhaaNJoin
namespace Go.Proofs.Ytochaiinofhdhaa
open Go.RowKit
set_option linter.unusedVariables false
set_option maxRecDepth 100000

theorem sequal_same {w : World} {v1 v2 : Value} {l : List (List UInt8)} (h1 : Row w v1 (T9 l)) (h2 : Row w v2 (T9 l)) :
    Calls Try.prog 53 #[v1, v2] w fun e w' => e = .returned (.bool true) ∧ Below w.heap.size w w' := by
  obtain ⟨a, c, rfl, a1, a2, a0, a3⟩ := h1
  obtain ⟨b, d, rfl, b1, b2, b0, b3⟩ := h2
  rw [T9_length] at a1 b1 ⊢
  unfold maxLen at a2 b2
  by_cases hz : l = []
  · subst hz
    refine (Try.slices_Equal_string_empty a b c 0 d w (by omega)).mono ?_
    rintro e w' ⟨rfl, rfl⟩
    exact ⟨rfl, Below.refl _ _⟩
  · have hp : 0 < l.length := List.length_pos_iff.2 hz
    obtain ⟨x, xo, e, _, _⟩ := a3 0 _ (List.getElem?_eq_getElem (by rw [T9_length]; exact hp))
    cases e
    obtain ⟨y, yo, e, _, _⟩ := b3 0 _ (List.getElem?_eq_getElem (by rw [T9_length]; exact hp))
    cases e
    refine (Try.slices_Equal_string x xo l.length c y yo l.length d (l.map S) (l.map S) w (by simp) (by simp) (by omega) (by omega) ?_ ?_).mono ?_
    · intro j hj
      have hj' : j < l.length := by simpa using hj
      obtain ⟨b', off', e, _, hc⟩ := a3 j _ (List.getElem?_eq_getElem (by rw [T9_length]; exact hj'))
      cases e
      rw [hc]
      simp [T9, List.getD, hj']
    · intro j hj
      have hj' : j < l.length := by simpa using hj
      obtain ⟨b', off', e, _, hc⟩ := b3 j _ (List.getElem?_eq_getElem (by rw [T9_length]; exact hj'))
      cases e
      rw [hc]
      simp [T9, List.getD, hj']
    · rintro e w' ⟨rfl, q, rfl⟩
      exact ⟨by simp, ⟨rfl, rfl, rfl, Nat.le_refl _, fun k hk => rfl⟩⟩
theorem iequal_same {w : World} {v1 v2 : Value} {l : List Int} (h1 : Row w v1 (I9 l)) (h2 : Row w v2 (I9 l)) :
    Calls Try.prog 54 #[v1, v2] w fun e w' => e = .returned (.bool true) ∧ Below w.heap.size w w' := by
  obtain ⟨a, c, rfl, a1, a2, a0, a3⟩ := h1
  obtain ⟨b, d, rfl, b1, b2, b0, b3⟩ := h2
  rw [I9_length] at a1 b1 ⊢
  unfold maxLen at a2 b2
  by_cases hz : l = []
  · subst hz
    refine (Try.slices_Equal_int_empty a b c 0 d w (by omega)).mono ?_
    rintro e w' ⟨rfl, rfl⟩
    exact ⟨rfl, Below.refl _ _⟩
  · have hp : 0 < l.length := List.length_pos_iff.2 hz
    obtain ⟨x, xo, e, _, _⟩ := a3 0 _ (List.getElem?_eq_getElem (by rw [I9_length]; exact hp))
    cases e
    obtain ⟨y, yo, e, _, _⟩ := b3 0 _ (List.getElem?_eq_getElem (by rw [I9_length]; exact hp))
    cases e
    refine (Try.slices_Equal_int x xo l.length c y yo l.length d l l w (by simp) (by simp) (by omega) (by omega) ?_ ?_).mono ?_
    · intro j hj
      obtain ⟨b', off', e, _, hc⟩ := a3 j _ (List.getElem?_eq_getElem (by rw [I9_length]; exact hj))
      cases e
      rw [hc]
      simp [I9, List.getD, hj]
    · intro j hj
      obtain ⟨b', off', e, _, hc⟩ := b3 j _ (List.getElem?_eq_getElem (by rw [I9_length]; exact hj))
      cases e
      rw [hc]
      simp [I9, List.getD, hj]
    · rintro e w' ⟨rfl, q, rfl⟩
      exact ⟨by simp, ⟨rfl, rfl, rfl, Nat.le_refl _, fun k hk => rfl⟩⟩

theorem told_node {w : World} {v : Value} {n : Nd} (h : NdAt w v n) :
    Calls Try.prog 13 #[v] w fun e w' => e = .returned v ∧ Below w.heap.size w w' := by
  obtain ⟨k, u, d, rfl, h1, h2, h3⟩ := h.rows
  obtain ⟨ka, kc, rfl, _⟩ := h1.shape
  obtain ⟨ua, uc, rfl, _⟩ := h2.shape
  obtain ⟨da, dc, rfl, _⟩ := h3.shape
  clear h h1 h2 h3
  go_enter Try.func13, Try.ntmps13
  go_wp2_with fail
  refine bodyPost_ret (v := .agg #[.bool n.leaf, .slice ka (T9 n.keys).length kc, .slice ua (T9 n.vals).length uc, .slice da (I9 n.kids).length dc]) (by simp [results, Try.results13, go_sem]) rfl ⟨rfl, ?_⟩
  first | exact below_two w _ _ | exact below_box _

set_option maxHeartbeats 3200000 in
theorem same_node {w : World} {va vb : Value} {n : Nd} (ha : NdAt w va n) (hb : NdAt w vb n) :
    Calls Try.prog 21 #[va, vb] w fun e w' => e = .returned (.int .i64 0) ∧ Below w.heap.size w w' := by
  obtain ⟨ka, ua, da, rfl, hka, hua, hda⟩ := ha.rows
  obtain ⟨kb, ub, db, rfl, hkb, hub, hdb⟩ := hb.rows
  have HK := hide (fun (w1 : World) (hl : Below w.heap.size w w1) => sequal_same (hka.later hl) (hkb.later hl))
  have HU := hide (fun (w1 : World) (hl : Below w.heap.size w w1) => sequal_same (hua.later hl) (hub.later hl))
  have HD := hide (fun (w1 : World) (hl : Below w.heap.size w w1) => iequal_same (hda.later hl) (hdb.later hl))
  obtain ⟨kaa, kac, rfl, _⟩ := hka.shape
  obtain ⟨uaa, uac, rfl, _⟩ := hua.shape
  obtain ⟨daa, dac, rfl, _⟩ := hda.shape
  obtain ⟨kba, kbc, rfl, _⟩ := hkb.shape
  obtain ⟨uba, ubc, rfl, _⟩ := hub.shape
  obtain ⟨dba, dbc, rfl, _⟩ := hdb.shape
  have HBX : Hid (∀ wx, Below (w.heap.size + 1 + 1) ((w.alloc (.cells #[.bool n.leaf, .slice kaa (T9 n.keys).length kac, .slice uaa (T9 n.vals).length uac, .slice daa (I9 n.kids).length dac] 31)).alloc (.cells #[.bool n.leaf, .slice kba (T9 n.keys).length kbc, .slice uba (T9 n.vals).length ubc, .slice dba (I9 n.kids).length dbc] 31)) wx →
      (wx.cell? ⟨w.heap.size, 1, none⟩ = some (.slice kaa (T9 n.keys).length kac) ∧ wx.cell? ⟨w.heap.size, 2, none⟩ = some (.slice uaa (T9 n.vals).length uac) ∧ wx.cell? ⟨w.heap.size, 3, none⟩ = some (.slice daa (I9 n.kids).length dac)) ∧
      (wx.cell? ⟨w.heap.size + 1, 1, none⟩ = some (.slice kba (T9 n.keys).length kbc) ∧ wx.cell? ⟨w.heap.size + 1, 2, none⟩ = some (.slice uba (T9 n.vals).length ubc) ∧ wx.cell? ⟨w.heap.size + 1, 3, none⟩ = some (.slice dba (I9 n.kids).length dbc)) ∧ w.heap.size + 1 + 1 ≤ wx.heap.size ∧ Below w.heap.size w wx) := fun wx hx => by
    have hsx := hx.size
    rw [World.size_alloc, World.size_alloc] at hsx
    have e1 := (hx.block w.heap.size (by omega)).trans ((Below.heap_alloc _ _ _ (by simp)).trans (heap_alloc_new w _))
    have e2 := (hx.block (w.heap.size + 1) (by omega)).trans (alloc_new' (by simp))
    obtain ⟨_, x1, x2, x3⟩ := cells4 e1
    obtain ⟨_, y1, y2, y3⟩ := cells4 e2
    exact ⟨⟨x1, x2, x3⟩, ⟨y1, y2, y3⟩, hsx, (below_two w _ _).trans (hx.mono (by omega))⟩
  have hbn : (n.leaf != n.leaf) = false := by simp
  clear ha hb hka hua hda hkb hub hdb
  generalize n.leaf = lf at *
  go_enter Try.func21, Try.ntmps21
  go_wp2_with fail
  refine (unhide HK _ (below_two w _ _)).mono ?_
  rintro e w1 ⟨rfl, hb1⟩
  rw [World.size_alloc, World.size_alloc] at hb1
  obtain ⟨⟨x1, x2, x3⟩, ⟨y1, y2, y3⟩, hz1, hl1⟩ := unhide HBX _ hb1
  go_wp2_with fail
  refine (unhide HU _ hl1).mono ?_
  rintro e w2 ⟨rfl, hb2⟩
  have hb12 := hb1.trans (hb2.mono hz1)
  clear x1 x2 x3 y1 y2 y3 hb1 hb2 hl1
  obtain ⟨⟨x1, x2, x3⟩, ⟨y1, y2, y3⟩, hz2, hl2⟩ := unhide HBX _ hb12
  go_wp2_with fail
  refine (unhide HD _ hl2).mono ?_
  rintro e w3 ⟨rfl, hb3⟩
  have HF := hide (hl2.trans (hb3.mono (by omega)))
  clear x1 x2 x3 y1 y2 y3 hb3 hl2 hb12
  go_wp2_with fail
  go_ret
  exact ⟨rfl, unhide HF⟩
end Go.Proofs.Ytochaiinofhdhaa
