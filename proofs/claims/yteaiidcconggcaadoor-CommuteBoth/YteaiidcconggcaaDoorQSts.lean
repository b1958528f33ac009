/- Rows of states in memory, and the document's rows and numbers. -/
import Derived.Test.YteaiidcconggcaaDoorBundleQ5
import Derived.Test.YteaiidcconggcaaDoorVRefWith
import Derived.Test.YteaiidcconggcaaDoorTOf2
import Derived.Test.YteaiidcconggcaaDoorBundleC1
import Derived.Deep.DeepCutAuto
namespace Go.Proofs.YteaiidcconggcaaDoor
open Go.RowKit
set_option linter.unusedVariables false
set_option maxRecDepth 100000

def E3s : List (VS × Value) → List Value
  | [] => []
  | x :: r => .int .i64 x.1.kind :: .int .i64 x.1.n :: x.2 :: E3s r
theorem E3s_append (a b : List (VS × Value)) : E3s (a ++ b) = E3s a ++ E3s b := by
  induction a with
  | nil => rfl
  | cons x r ih => simp [E3s, ih]
theorem E3s_get : ∀ (a : List (VS × Value)) (k : Nat) (h : k < a.length), (E3s a)[k * 3]? = some (.int .i64 (a[k]'h).1.kind) ∧ (E3s a)[k * 3 + 1]? = some (.int .i64 (a[k]'h).1.n) ∧ (E3s a)[k * 3 + 2]? = some (a[k]'h).2
  | x :: r, 0, h => by simp [E3s]
  | x :: r, k + 1, h => by
    have := E3s_get r k (by simpa using h)
    have e : (k + 1) * 3 = k * 3 + 1 + 1 + 1 := by omega
    rw [e]
    simpa [E3s] using this
theorem own_unlikeS {w : World} {base size n : Nat} {e t : TypeId} {v : Value} {xs : List Value} (h : w.ownsRow base e size v n xs) {k : Nat} {c : Array Value} (hb : w.heap[k]? = some (.cells c t (0, 0))) (hne : e ≠ t) : v.ownBlock ≠ some k := by
  rcases h.2 with ⟨rfl, _⟩ | ⟨g, cap, cur, rfl, _, hh, _⟩
  · intro e; cases e
  · intro e'
    have e2 : g = k := by injection e'
    subst e2
    rw [hh] at hb
    injection hb with hb
    injection hb with _ hb
    exact hne hb
theorem own_apartS {w : World} {b1 s1 n1 b2 s2 n2 : Nat} {e1 e2 : TypeId} {v1 v2 : Value} {x1 x2 : List Value} (h1 : w.ownsRow b1 e1 s1 v1 n1 x1) (h2 : w.ownsRow b2 e2 s2 v2 n2 x2) (hne : e2 ≠ e1) : v1.ownBlock = none ∨ v1.ownBlock ≠ v2.ownBlock := by
  rcases h1.2 with ⟨rfl, _⟩ | ⟨g, cap, cur, rfl, _, hh, _⟩
  · exact Or.inl rfl
  · exact Or.inr fun e => own_unlikeS h2 hh hne e.symm
/- A row of states, in memory of the call's own; each one's rows lie where nothing writes. -/
structure Ss (W : World) (oa : Option Addr) (oc : Nat) (L : List (VS × Value)) (wr : World) : Prop where
  low : Below W.heap.size W wr
  own : wr.ownsRow W.heap.size 38 3 (.slice oa L.length oc) L.length (E3s L)
  rows : ∀ z ∈ L, wr.ownsRow 0 77 2 z.2 z.1.rows.length (R9 z.1.rows)
theorem Ss.later {W wr w5 : World} {oa : Option Addr} {oc : Nat} {L : List (VS × Value)} (h : Ss W oa oc L wr) (hb : Below wr.heap.size wr w5) : Ss W oa oc L w5 :=
  ⟨h.low.trans (hb.mono h.low.size), ownsRow_below h.own hb, fun z hz => ownsRow_below (h.rows z hz) hb⟩
theorem Ss.snoc {W w5 w6 : World} {oa ua : Option Addr} {oc uc : Nat} {L : List (VS × Value)} (h : Ss W oa oc L w5) (hg : w5.grownBy w6 (Value.slice oa L.length oc).ownBlock) (z : VS × Value) (hz : w5.ownsRow 0 77 2 z.2 z.1.rows.length (R9 z.1.rows))
    (ho : w6.ownsRow W.heap.size 38 3 (.slice ua (L.length + 1) uc) (L.length + 1) (E3s L ++ [.int .i64 z.1.kind, .int .i64 z.1.n, z.2])) : Ss W ua uc (L ++ [z]) w6 := by
  have e1 : (L ++ [z]).length = L.length + 1 := by simp
  refine ⟨h.low.grown hg h.low.size (fun k e => (h.own.lt k e).1), ?_, fun y hy => ?_⟩
  · rw [e1, E3s_append]
    exact ho
  · rcases List.mem_append.mp hy with hy | hy
    · exact World.ownsRow.kept (h.rows y hy) hg (own_apartS (h.rows y hy) h.own (by decide))
    · rw [List.mem_singleton.mp hy]
      exact World.ownsRow.kept hz hg (own_apartS hz h.own (by decide))
theorem Ss.at {W wr : World} {oa : Option Addr} {oc : Nat} {L : List (VS × Value)} (h : Ss W oa oc L wr) (i : Nat) (hi : i < L.length) :
    ∃ b, oa = some ⟨b, 0, none⟩ ∧ b < wr.heap.size ∧ wr.cell? ⟨b, i * 3, none⟩ = some (.int .i64 (L[i]'hi).1.kind) ∧ wr.cell? ⟨b, i * 3 + 1, none⟩ = some (.int .i64 (L[i]'hi).1.n) ∧ wr.cell? ⟨b, i * 3 + 2, none⟩ = some (L[i]'hi).2 := by
  obtain ⟨g0, g1, g2⟩ := E3s_get L i hi
  rcases h.own.2 with ⟨e, h0⟩ | ⟨g, cap, cur, e, hb, hh, hn, hm, hs, ht⟩
  · omega
  · injection e with e1 e2 e3
    subst e1
    exact ⟨g, rfl, block_lt hh, ownsRow_cell h.own rfl _ _ g0, ownsRow_cell h.own rfl _ _ g1, ownsRow_cell h.own rfl _ _ g2⟩
theorem qunder_sts : Tryd.prog.underlying 71 = some (.slice 38) := by kernel_rfl
theorem qinfo_st : (Tryd.prog.info? 38).map (fun i => (i.zero, i.size, i.bytes)) = some (some (.agg #[.int .i64 0, .int .i64 0, .slice none 0 0]), 3, 40) := by kernel_rfl
theorem qthree_new (w : World) (a b c : Value) (t : TypeId) {n : Nat} (hn : w.heap.size = n) : ∀ j u, [a, b, c][j]? = some u → (w.alloc (.cells #[a, b, c] t)).cell? ((⟨n, 0, none⟩ : Addr).add j) = some u := by
  subst hn
  intro j u hu
  rw [plain_add, Nat.zero_add, block_cell (heap_alloc_new w _)]
  match j, hu with
  | 0, hu => exact hu
  | 1, hu => exact hu
  | 2, hu => exact hu
  | j + 3, hu => simp at hu
/- States of a type that has rows, of at most two. -/
structure Small (k : Int) (L : List (VS × Value)) : Prop where
  kind : ∀ z ∈ L, z.1.kind = k ∧ z.1.n = 0 ∧ z.1.rows.length ≤ 2 ∧ (k = 6 ∨ Stand z.1.rows)
  bare : ∃ v, ((⟨k, 0, []⟩ : VS), v) ∈ L
theorem Small.snoc {k : Int} {L : List (VS × Value)} (h : Small k L) {z : VS × Value} (hz : z.1.kind = k ∧ z.1.n = 0 ∧ z.1.rows.length ≤ 2 ∧ (k = 6 ∨ Stand z.1.rows)) : Small k (L ++ [z]) := by
  refine ⟨fun y hy => ?_, ?_⟩
  · rcases List.mem_append.mp hy with hy | hy
    · exact h.kind y hy
    · rw [List.mem_singleton.mp hy]; exact hz
  · obtain ⟨v, hv⟩ := h.bare
    exact ⟨v, List.mem_append_left _ hv⟩
theorem one_small (k : Int) (a v : List UInt8) : (⟨k, 0, [(a, v)]⟩ : VS).kind = k ∧ (⟨k, 0, [(a, v)]⟩ : VS).n = 0 ∧ (⟨k, 0, [(a, v)]⟩ : VS).rows.length ≤ 2 ∧ (k = 6 ∨ Stand (⟨k, 0, [(a, v)]⟩ : VS).rows) := ⟨rfl, rfl, by simp, Or.inr (List.pairwise_singleton _ _)⟩
theorem two_small (k : Int) (r q : Rw) : ((⟨k, 0, [r]⟩ : VS).rwith q).kind = k ∧ ((⟨k, 0, [r]⟩ : VS).rwith q).n = 0 ∧ ((⟨k, 0, [r]⟩ : VS).rwith q).rows.length ≤ 2 ∧ (k = 6 ∨ Stand ((⟨k, 0, [r]⟩ : VS).rwith q).rows) := by
  refine ⟨rfl, rfl, ?_, ?_⟩
  · show (putG k q [r]).length ≤ 2
    unfold putG putF
    split
    · simp
    · split <;> simp [putF]
  · by_cases h : k = 6
    · exact Or.inl h
    · refine Or.inr ?_
      show Stand (putG k q [r])
      unfold putG
      rw [if_neg h]
      exact Stand.put (List.pairwise_singleton _ _) q
set_option maxHeartbeats 25600000 in
/- Numbers as states: those that may be. -/
theorem qnums_any {w : World} (k : Int) (b : Nat) (l : List Int) (hl : l.length ≤ 100) (hc : ∀ i (h : i < l.length), w.cell? ⟨b, i, none⟩ = some (.int .i64 (l[i]'h))) (hb : b < w.heap.size) (c : Nat) :
    Calls Tryd.prog 52 #[.int .i64 k, .slice (some ⟨b, 0, none⟩) l.length c] w fun e w' => ∃ oa oc L, e = .returned (.slice oa L.length oc) ∧ L.length ≤ 200 ∧ Ss w oa oc L w' ∧ (∀ z ∈ L, ∃ n ∈ l, z.1 = ⟨k, n, []⟩ ∧ (k = 2 ∨ 0 ≤ n ∧ n ≤ 1125899906842624)) ∧ (∀ n ∈ l, (k = 2 ∨ 0 ≤ n ∧ n ≤ 1125899906842624) → ∃ v, ((⟨k, n, []⟩ : VS), v) ∈ L) := by
  obtain ⟨i0, hi, hz0, hz1, hz2⟩ := info_parts qinfo_st
  have HC := hide hc
  have HB := hide hb
  have HE0 : Hid (Ss w (some ⟨w.heap.size, 0, none⟩) 0 [] (w.alloc (.cells #[] 38))) := ⟨under_box _, World.ownsRow_lit w #[] 0 (Nat.le_refl _) (by simp [maxLen]) (by simp), fun z hz => by cases hz⟩
  clear hc hb
  go_enter Tryd.func52, Tryd.ntmps52
  go_wp2_with fail
  go_loopw [5, 11, 7] (fun ov iv _ wr => ∃ (i : Nat) (L : List (VS × Value)) (oa : Option Addr) (oc : Nat), i ≤ l.length ∧ L.length ≤ i ∧ ov = .slice oa L.length oc ∧ iv = .int .i64 (i : Int) ∧ Ss w oa oc L wr ∧ (∀ z ∈ L, ∃ n ∈ l, z.1 = ⟨k, n, []⟩ ∧ (k = 2 ∨ 0 ≤ n ∧ n ≤ 1125899906842624)) ∧ (∀ j (h : j < l.length), j < i → (k = 2 ∨ 0 ≤ (l[j]'h) ∧ (l[j]'h) ≤ 1125899906842624) → ∃ v, ((⟨k, l[j]'h, []⟩ : VS), v) ∈ L)) (fun _ iv _ _ => l.length - (intOf iv).toNat)
  case atStart => exact ⟨0, [], _, 0, Nat.zero_le _, Nat.zero_le _, rfl, rfl, unhide HE0, fun z hz => (by cases hz), fun j h hj => (by omega)⟩
  case round =>
    obtain ⟨i, L, oa, oc, hil, hLi, rfl, rfl, hss, hall, hin⟩ := hrel
    have HSS := hide hss
    have HALL := hide hall
    have HIN := hide hin
    have hlow := hss.low
    clear hss hall hin
    by_cases hlt : i < l.length
    · have j1 : (i : Int) < ((l.length : Nat) : Int) := by omega
      have j0 : (0 : Int) ≤ (i : Int) := by omega
      have f0 := (hlow.cell (p := ⟨b, i, none⟩) (unhide HB)).trans (unhide HC i hlt)
      have HMEM := hide (List.getElem_mem hlt)
      have HNX : Hid (∀ (L' : List (VS × Value)), (∀ z ∈ L, z ∈ L') → ((k = 2 ∨ 0 ≤ (l[i]'hlt) ∧ (l[i]'hlt) ≤ 1125899906842624) → ∃ v, ((⟨k, l[i]'hlt, []⟩ : VS), v) ∈ L') → ∀ j (h : j < l.length), j < i + 1 → (k = 2 ∨ 0 ≤ (l[j]'h) ∧ (l[j]'h) ≤ 1125899906842624) → ∃ v, ((⟨k, l[j]'h, []⟩ : VS), v) ∈ L') := fun L' hsub hi' j h hj hc => by
        by_cases e : j = i
        · subst e; exact hi' hc
        · obtain ⟨v, hv⟩ := unhide HIN j h (by omega) hc
          exact ⟨v, hsub _ hv⟩
      generalize l[i]'hlt = m at *
      by_cases hgo : k = 2 ∨ 0 ≤ m ∧ m ≤ 1125899906842624
      · have hsz := hlow.size
        have hR : Hid (∀ (x : Bool) (y : Bool), True) := fun _ _ => trivial
        clear hlow hR
        by_cases h2 : k = 2
        · subst h2
          go_wp2_with (first | (at_builtin; refine wpList_append_fresh rfl _ _ 71 rfl w.heap.size 38 i0 (.agg #[.int .i64 0, .int .i64 0, .slice none 0 0]) 3 40 qunder_sts hi hz0 hz1 hz2 rfl (by decide) _ _ _ rfl ((unhide HSS).own.alloc _) ⟨wr.heap.size, 0, none⟩ 1 1 [.int .i64 2, .int .i64 m, .slice none 0 0] rfl rfl (by exact qthree_new _ _ _ _ _ rfl) ?c2 ?c3 ?c4 ?c5 ?_) | fail)
          case c2 => first | exact ⟨rfl, rfl, rfl⟩ | (intro u hu; simp at hu; rcases hu with rfl | rfl | rfl <;> rfl)
          case c3 => unfold maxLen; omega
          case c4 => omega
          case c5 => first | omega | (simp; omega)
          intro v' wg hown' hgrow _
          obtain ⟨ua, uc, rfl, _⟩ := ownsRow_slice hown'
          have HSN := hide (((unhide HSS).later (under_box (.cells #[.int .i64 2, .int .i64 m, .slice none 0 0] 38))).snoc hgrow (⟨2, m, []⟩, .slice none 0 0) (World.ownsRow_nil _ _ _ _) hown')
          clear hown' hgrow
          go_wp2_with fail
          go_roundw
          case rel =>
            refine ⟨i + 1, L ++ [(⟨2, m, []⟩, .slice none 0 0)], ua, uc, by omega, by simp; omega, by simp, by go_num, unhide HSN, fun z hz => ?_, unhide HNX _ (fun z hz => List.mem_append_left _ hz) fun _ => ⟨_, List.mem_append_right _ (List.mem_singleton.mpr rfl)⟩⟩
            rcases List.mem_append.mp hz with hz | hz
            · exact unhide HALL z hz
            · rw [List.mem_singleton.mp hz]
              exact ⟨m, unhide HMEM, rfl, hgo⟩
          case measure => simp [intOf]; omega
        · obtain ⟨g1, g2⟩ := hgo.resolve_left h2
          have e2 : (k == 2) = false := by simpa using h2
          go_wp2_with (first | (at_builtin; refine wpList_append_fresh rfl _ _ 71 rfl w.heap.size 38 i0 (.agg #[.int .i64 0, .int .i64 0, .slice none 0 0]) 3 40 qunder_sts hi hz0 hz1 hz2 rfl (by decide) _ _ _ rfl ((unhide HSS).own.alloc _) ⟨wr.heap.size, 0, none⟩ 1 1 [.int .i64 k, .int .i64 m, .slice none 0 0] rfl rfl (by exact qthree_new _ _ _ _ _ rfl) ?c2 ?c3 ?c4 ?c5 ?_) | fail)
          case c2 => first | exact ⟨rfl, rfl, rfl⟩ | (intro u hu; simp at hu; rcases hu with rfl | rfl | rfl <;> rfl)
          case c3 => unfold maxLen; omega
          case c4 => omega
          case c5 => first | omega | (simp; omega)
          intro v' wg hown' hgrow _
          obtain ⟨ua, uc, rfl, _⟩ := ownsRow_slice hown'
          have HSN := hide (((unhide HSS).later (under_box (.cells #[.int .i64 k, .int .i64 m, .slice none 0 0] 38))).snoc hgrow (⟨k, m, []⟩, .slice none 0 0) (World.ownsRow_nil _ _ _ _) hown')
          clear hown' hgrow
          go_wp2_with fail
          go_roundw
          case rel =>
            refine ⟨i + 1, L ++ [(⟨k, m, []⟩, .slice none 0 0)], ua, uc, by omega, by simp; omega, by simp, by go_num, unhide HSN, fun z hz => ?_, unhide HNX _ (fun z hz => List.mem_append_left _ hz) fun _ => ⟨_, List.mem_append_right _ (List.mem_singleton.mpr rfl)⟩⟩
            rcases List.mem_append.mp hz with hz | hz
            · exact unhide HALL z hz
            · rw [List.mem_singleton.mp hz]
              exact ⟨m, unhide HMEM, rfl, hgo⟩
          case measure => simp [intOf]; omega
      · have e2 : (k == 2) = false := by simp; omega
        have hno : ∀ L' : List (VS × Value), (k = 2 ∨ 0 ≤ m ∧ m ≤ 1125899906842624) → ∃ v, ((⟨k, m, []⟩ : VS), v) ∈ L' := fun _ h => absurd h hgo
        have HNN := hide (unhide HNX L (fun z hz => hz) (hno L))
        clear hlow hno
        by_cases g1 : 0 ≤ m
        · have g2 : ¬ m ≤ 1125899906842624 := by omega
          go_wp2_with fail
          go_roundw
          case rel => exact ⟨i + 1, L, oa, oc, by omega, by omega, rfl, by go_num, unhide HSS, unhide HALL, unhide HNN⟩
          case measure => simp [intOf]; omega
        · go_wp2_with fail
          go_roundw
          case rel => exact ⟨i + 1, L, oa, oc, by omega, by omega, rfl, by go_num, unhide HSS, unhide HALL, unhide HNN⟩
          case measure => simp [intOf]; omega
    · have j1 : ¬ (i : Int) < ((l.length : Nat) : Int) := by omega
      have hil2 : i = l.length := by omega
      have HSS2 := hide hlow
      clear hlow
      go_wp2_with fail
      go_ret
      refine ⟨oa, oc, L, rfl, by omega, unhide HSS, fun a b h => unhide HALL (a, b) h, fun n hn hk => ?_⟩
      obtain ⟨j, hj, rfl⟩ := List.getElem_of_mem hn
      exact unhide HIN j hj (by omega) hk
/- What the loops carry: all small, and what has been laid. -/
structure Lr (k : Int) (T V : List (List UInt8)) (i j : Nat) (L : List (VS × Value)) : Prop where
  small : Small k L
  got : ∀ i' (hi : i' < T.length) j' (hj : j' < V.length), i' < i ∨ i' = i ∧ j' < j → ∃ v, ((⟨k, 0, [(T[i']'hi, V[j']'hj)]⟩ : VS), v) ∈ L
theorem Lr.more {k : Int} {T V : List (List UInt8)} {i j : Nat} {L L' : List (VS × Value)} (h : Lr k T V i j L) (hs : Small k L') (hsub : ∀ z ∈ L, z ∈ L') : Lr k T V i j L' := ⟨hs, fun i' hi j' hj hc => by
  obtain ⟨v, hv⟩ := h.got i' hi j' hj hc
  exact ⟨v, hsub _ hv⟩⟩
theorem Lr.step {k : Int} {T V : List (List UInt8)} {i j : Nat} {L : List (VS × Value)} (h : Lr k T V i j L) (hi : i < T.length) (hj : j < V.length) (hm : ∃ v, ((⟨k, 0, [(T[i]'hi, V[j]'hj)]⟩ : VS), v) ∈ L) : Lr k T V i (j + 1) L := ⟨h.small, fun i' hi' j' hj' hc => by
  by_cases e : i' = i ∧ j' = j
  · obtain ⟨rfl, rfl⟩ := e
    exact hm
  · exact h.got i' hi' j' hj' (by omega)⟩
theorem Lr.row {k : Int} {T V : List (List UInt8)} {i : Nat} {L : List (VS × Value)} (h : Lr k T V i V.length L) : Lr k T V (i + 1) 0 L := ⟨h.small, fun i' hi' j' hj' hc => h.got i' hi' j' hj' (by omega)⟩
set_option maxHeartbeats 51200000 in
/- None, one, or two rows of some texts, each with one of some values. -/
theorem qrows_any {w : World} (k : Int) (tb : Nat) (T : List (List UInt8)) (hT : T.length ≤ 4) (hTc : ∀ i (h : i < T.length), w.cell? ⟨tb, i, none⟩ = some (.string (S (T[i]'h)))) (htb : tb < w.heap.size) (tc : Nat)
    (vb : Nat) (V : List (List UInt8)) (hV : V.length ≤ 3) (hVc : ∀ i (h : i < V.length), w.cell? ⟨vb, i, none⟩ = some (.string (S (V[i]'h)))) (hvb : vb < w.heap.size) (vc : Nat) :
    Calls Tryd.prog 53 #[.int .i64 k, .slice (some ⟨tb, 0, none⟩) T.length tc, .slice (some ⟨vb, 0, none⟩) V.length vc] w fun e w' => ∃ oa oc L, e = .returned (.slice oa L.length oc) ∧ L.length ≤ 200 ∧ Ss w oa oc L w' ∧ Small k L ∧ (∀ t ∈ T, ∀ u ∈ V, ∃ v, ((⟨k, 0, [(t, u)]⟩ : VS), v) ∈ L) := by
  obtain ⟨i0, hi, hz0, hz1, hz2⟩ := info_parts qinfo_st
  have HTC := hide (fun (wz : World) (hf : Below w.heap.size w wz) (i : Nat) (h : i < T.length) => (hf.cell (p := ⟨tb, i, none⟩) htb).trans (hTc i h))
  have HVC := hide (fun (wz : World) (hf : Below w.heap.size w wz) (i : Nat) (h : i < V.length) => (hf.cell (p := ⟨vb, i, none⟩) hvb).trans (hVc i h))
  have HE0 : Hid (Ss w (some ⟨w.heap.size, 0, none⟩) 1 [(⟨k, 0, []⟩, .slice none 0 0)] (w.alloc (.cells #[.int .i64 k, .int .i64 0, .slice none 0 0] 38))) := ⟨under_box _, World.ownsRow_lit w #[.int .i64 k, .int .i64 0, .slice none 0 0] 1 (Nat.le_refl _) (by simp [maxLen]) (by simp), fun z hz => by
    rw [List.mem_singleton.mp hz]
    exact World.ownsRow_nil _ _ _ _⟩
  have HS0 : Hid (Lr k T V 0 0 [(⟨k, 0, []⟩, .slice none 0 0)]) := ⟨⟨fun z hz => by rw [List.mem_singleton.mp hz]; exact ⟨rfl, rfl, by simp, Or.inr List.Pairwise.nil⟩, _, List.mem_singleton.mpr rfl⟩, fun i' _ j' _ h => by omega⟩
  clear hTc hVc htb hvb
  go_enter Tryd.func53, Tryd.ntmps53
  go_wp2_with fail
  go_loopw [7, 22, 9, 11, 12, 14, 16] (fun ov iv _ _ _ _ _ wr => ∃ (i : Nat) (L : List (VS × Value)) (oa : Option Addr) (oc : Nat), i ≤ T.length ∧ L.length ≤ 1 + 40 * i ∧ ov = .slice oa L.length oc ∧ iv = .int .i64 (i : Int) ∧ Ss w oa oc L wr ∧ Lr k T V i 0 L) (fun _ iv _ _ _ _ _ _ => T.length - (intOf iv).toNat)
  case atStart => exact ⟨0, [(⟨k, 0, []⟩, .slice none 0 0)], _, 1, Nat.zero_le _, by simp, rfl, rfl, unhide HE0, unhide HS0⟩
  case round =>
    obtain ⟨i, L, oa, oc, hil, hLi, rfl, rfl, hss, hlr⟩ := hrel
    have HSS := hide hss
    have HLR := hide hlr
    have hlow := hss.low
    clear hss hlr
    by_cases hlt : i < T.length
    · have j1 : (i : Int) < ((T.length : Nat) : Int) := by omega
      have j0 : (0 : Int) ≤ (i : Int) := by omega
      have f0 := unhide HTC _ hlow i hlt
      obtain ⟨ti, hti⟩ : ∃ ti, T[i]'hlt = ti := ⟨_, rfl⟩
      rw [hti] at f0
      have HTI := hide hti
      clear hti hlow
      go_upto_region 5 with fail
      clear f0
      go_wp2_with fail
      go_loopw [7, 28, 11, 12, 14, 16] (fun ov jv _ _ _ _ wr => ∃ (j : Nat) (L : List (VS × Value)) (oa : Option Addr) (oc : Nat), j ≤ V.length ∧ L.length ≤ 1 + 40 * i + 13 * j ∧ ov = .slice oa L.length oc ∧ jv = .int .i64 (j : Int) ∧ Ss w oa oc L wr ∧ Lr k T V i j L) (fun _ jv _ _ _ _ _ => V.length - (intOf jv).toNat)
      case atStart => exact ⟨0, L, oa, oc, Nat.zero_le _, by omega, rfl, rfl, unhide HSS, unhide HLR⟩
      case round =>
        clear HSS HLR
        obtain ⟨j, L, oa, oc, hjl, hLj, rfl, rfl, hss, hlr⟩ := hrel
        have HSS := hide hss
        have HLR := hide hlr
        have hlow := hss.low
        clear hss hlr
        by_cases hjt : j < V.length
        · have k1 : (j : Int) < ((V.length : Nat) : Int) := by omega
          have k0 : (0 : Int) ≤ (j : Int) := by omega
          have f0 := unhide HVC _ hlow j hjt
          obtain ⟨vj, hvj⟩ : ∃ vj, V[j]'hjt = vj := ⟨_, rfl⟩
          rw [hvj] at f0
          have HVJ := hide hvj
          have HWI := hide (rwith_any (w := wr) (v := .agg #[.int .i64 k, .int .i64 0, .slice none 0 0]) (s := ⟨k, 0, []⟩) ⟨_, rfl, Row2.of_own (World.ownsRow_nil _ 0 77 2)⟩ (by simp) (ti, vj))
          rw [with_nil] at HWI
          have hszr := hlow.size
          clear hvj hlow
          go_wp2_with fail
          refine (unhide HWI).mono ?_
          rintro e w5 ⟨v5, rfl, ⟨k5, rfl, ho5⟩, hb5⟩
          obtain ⟨ra, rc, rfl, _⟩ := ownsRow_slice ho5
          have ho6 : w5.ownsRow 0 77 2 (.slice ra 1 rc) 1 (R9 [(ti, vj)]) := ownsRow_less ho5 (Nat.zero_le _)
          obtain ⟨W5, hW5⟩ : ∃ W5, w5.alloc (.cells #[.int .i64 k, .int .i64 0, .slice ra 1 rc] 38) = W5 := ⟨_, rfl⟩
          have hb6 : Below wr.heap.size wr W5 := by rw [← hW5]; exact hb5.trans ((under_box _).mono hb5.size)
          have hs6 : w5.heap.size < W5.heap.size := by rw [← hW5]; simp
          have hx6 : W5.heap[w5.heap.size]? = some (.cells #[.int .i64 k, .int .i64 0, .slice ra 1 rc] 38 (0, 0)) := by rw [← hW5]; exact heap_alloc_new w5 _
          have HSS6 := hide ((unhide HSS).later hb6)
          have HRO6 : Hid (W5.ownsRow 0 77 2 (.slice ra 1 rc) 1 (R9 [(ti, vj)])) := by show World.ownsRow _ _ _ _ _ _ _; rw [← hW5]; exact ho6.alloc _
          have HOQ : Hid (∀ q, (Value.slice oa L.length oc).ownBlock = some q → q < w5.heap.size) := fun q hq => by have h1 := ((unhide HSS).own.lt q hq).2; have := hb5.size; omega
          have HBX6 := hide hx6
          have HMR := hide (show ∀ (L' : List (VS × Value)), (∃ v, ((⟨k, 0, [(ti, vj)]⟩ : VS), v) ∈ L') → Lr k T V i j L' → Lr k T V i (j + 1) L' from fun L' hm hl => hl.step hlt hjt (by rw [unhide HTI, unhide HVJ]; exact hm))
          obtain ⟨x0, x1, x2, _⟩ := cell3 hx6
          have hsz6 := (unhide HSS6).low.size
          clear hb5 ho5 ho6 hb6 hx6 f0 HWI HSS hszr
          go_upto_region 9 with fail
          try rw [hW5]
          clear hW5
          go_wp2_with (first | (at_builtin; refine wpList_append_fresh rfl _ _ 71 rfl w.heap.size 38 i0 (.agg #[.int .i64 0, .int .i64 0, .slice none 0 0]) 3 40 qunder_sts hi hz0 hz1 hz2 rfl (by decide) _ _ _ rfl ((unhide HSS6).own.alloc _) ⟨W5.heap.size, 0, none⟩ 1 1 [.int .i64 k, .int .i64 0, .slice ra 1 rc] rfl rfl (by exact qthree_new _ _ _ _ _ rfl) ?c2 ?c3 ?c4 ?c5 ?_) | fail)
          case c2 => first | exact ⟨rfl, rfl, rfl⟩ | (intro u hu; simp at hu; rcases hu with rfl | rfl | rfl <;> rfl)
          case c3 => unfold maxLen; omega
          case c4 => omega
          case c5 => first | omega | (simp; omega)
          intro v' wg hown' hgrow hblk
          obtain ⟨ua, uc, rfl, _⟩ := ownsRow_slice hown'
          have HSN := hide (((unhide HSS6).later (under_box (.cells #[.int .i64 k, .int .i64 0, .slice ra 1 rc] 38))).snoc hgrow (⟨k, 0, [(ti, vj)]⟩, .slice ra 1 rc) ((unhide HRO6).alloc _) hown')
          have HLN : Hid (Lr k T V i (j + 1) (L ++ [(⟨k, 0, [(ti, vj)]⟩, .slice ra 1 rc)])) := unhide HMR _ ⟨_, List.mem_append_right _ (List.mem_singleton.mpr rfl)⟩ ((unhide HLR).more ((unhide HLR).small.snoc (one_small k ti vj)) (fun z hz => List.mem_append_left _ hz))
          have HBN : Hid (wg.heap[w5.heap.size]? = some (.cells #[.int .i64 k, .int .i64 0, .slice ra 1 rc] 38 (0, 0))) := by
            have hne : (Value.slice oa L.length oc).ownBlock ≠ some w5.heap.size := fun e => by have := unhide HOQ _ e; omega
            exact (hgrow.block _ (by simp; omega) (fun e => hne e.symm)).trans ((Below.heap_alloc _ _ _ hs6).trans (unhide HBX6))
          have HQN : Hid (∀ q, (Value.slice ua (L.length + 1) uc).ownBlock = some q → q ≠ w5.heap.size) := fun q hq => by
            rcases hblk with h | h
            · rw [h] at hq
              have := unhide HOQ q hq
              omega
            · have h1 := h q hq
              omega
          clear hown' hgrow hblk HSS6 HLR HOQ HBX6 HMR x0 x1 x2 hsz6 hs6 HRO6
          go_wp2_with fail
          go_loopw [7, 44, 14, 16] (fun ov jv _ _ wr => ∃ (g : Nat) (L : List (VS × Value)) (oa : Option Addr) (oc : Nat), g ≤ T.length ∧ L.length ≤ 2 + 40 * i + 13 * j + 3 * g ∧ ov = .slice oa L.length oc ∧ jv = .int .i64 (g : Int) ∧ Ss w oa oc L wr ∧ Lr k T V i (j + 1) L ∧ wr.heap[w5.heap.size]? = some (.cells #[.int .i64 k, .int .i64 0, .slice ra 1 rc] 38 (0, 0)) ∧ (∀ q, (Value.slice oa L.length oc).ownBlock = some q → q ≠ w5.heap.size) ∧ wr.ownsRow 0 77 2 (.slice ra 1 rc) 1 (R9 [(ti, vj)])) (fun _ jv _ _ _ => T.length - (intOf jv).toNat)
          case atStart => exact ⟨0, L ++ [(⟨k, 0, [(ti, vj)]⟩, .slice ra 1 rc)], ua, uc, Nat.zero_le _, by simp; omega, by simp, rfl, unhide HSN, unhide HLN, unhide HBN, fun q hq => unhide HQN q (by simpa using hq), (unhide HSN).rows _ (List.mem_append_right _ (List.mem_singleton.mpr rfl))⟩
          case round =>
            clear HSN HLN HBN HQN
            obtain ⟨g, L, oa, oc, hgl, hLg, rfl, rfl, hss, hlr, hbx, hqn, hro⟩ := hrel
            have HSS := hide hss
            have HLR := hide hlr
            have HBX := hide hbx
            have HQN := hide hqn
            have HRO := hide hro
            have hlow := hss.low
            clear hss hlr hbx hqn hro
            by_cases hgt : g < T.length
            · have m1 : (g : Int) < ((T.length : Nat) : Int) := by omega
              have m0 : (0 : Int) ≤ (g : Int) := by omega
              have f0 := unhide HTC _ hlow g hgt
              generalize T[g]'hgt = tg at *
              clear hlow
              go_upto_region 13 with fail
              clear f0
              go_wp2_with fail
              go_loopw [7, 50, 16] (fun ov jv _ wr => ∃ (h : Nat) (L : List (VS × Value)) (oa : Option Addr) (oc : Nat), h ≤ V.length ∧ L.length ≤ 2 + 40 * i + 13 * j + 3 * g + h ∧ ov = .slice oa L.length oc ∧ jv = .int .i64 (h : Int) ∧ Ss w oa oc L wr ∧ Lr k T V i (j + 1) L ∧ wr.heap[w5.heap.size]? = some (.cells #[.int .i64 k, .int .i64 0, .slice ra 1 rc] 38 (0, 0)) ∧ (∀ q, (Value.slice oa L.length oc).ownBlock = some q → q ≠ w5.heap.size) ∧ wr.ownsRow 0 77 2 (.slice ra 1 rc) 1 (R9 [(ti, vj)])) (fun _ jv _ _ => V.length - (intOf jv).toNat)
              case atStart => exact ⟨0, L, oa, oc, Nat.zero_le _, by omega, rfl, rfl, unhide HSS, unhide HLR, unhide HBX, unhide HQN, unhide HRO⟩
              case round =>
                clear HSS HLR HBX HQN HRO
                obtain ⟨h, L, oa, oc, hhl, hLh, rfl, rfl, hss, hlr, hbx, hqn, hro⟩ := hrel
                have HSS := hide hss
                have HLR := hide hlr
                have HBX := hide hbx
                have HQN := hide hqn
                have HRO := hide hro
                have hlow := hss.low
                clear hss hlr hbx hqn hro
                by_cases hht : h < V.length
                · have n1 : (h : Int) < ((V.length : Nat) : Int) := by omega
                  have n0 : (0 : Int) ≤ (h : Int) := by omega
                  have f0 := unhide HVC _ hlow h hht
                  generalize V[h]'hht = vh at *
                  obtain ⟨x0, x1, x2, _⟩ := cell3 (unhide HBX)
                  have HWI := hide (rwith_any (w := wr) (v := .agg #[.int .i64 k, .int .i64 0, .slice ra 1 rc]) (s := ⟨k, 0, [(ti, vj)]⟩) ⟨_, rfl, Row2.of_own (unhide HRO)⟩ (by simp) (tg, vh))
                  have HTW := hide (two_small k (ti, vj) (tg, vh))
                  obtain ⟨z, hz⟩ : ∃ z, (⟨k, 0, [(ti, vj)]⟩ : VS).rwith (tg, vh) = z := ⟨_, rfl⟩
                  rw [hz] at HWI HTW
                  have hszr := hlow.size
                  clear hz hlow
                  go_wp2_with fail
                  refine (unhide HWI).mono ?_
                  rintro e w8 ⟨v8, rfl, ⟨k8, rfl, ho8⟩, hb8⟩
                  obtain ⟨rb, rd, rfl, _⟩ := ownsRow_slice ho8
                  have HSS8 := hide ((unhide HSS).later hb8)
                  have HRO8 := hide (ownsRow_below (unhide HRO) hb8)
                  have HRZ8 := hide (ownsRow_less ho8 (Nat.zero_le _))
                  have HBX8 := hide ((hb8.block _ (block_lt (unhide HBX))).trans (unhide HBX))
                  have hlt8 := block_lt (unhide HBX8)
                  have hsz8 := (unhide HSS8).low.size
                  clear ho8 hb8 HWI x0 x1 x2 f0 HSS HRO HBX hszr
                  go_wp2_with (first | (at_builtin; refine wpList_append_fresh rfl _ _ 71 rfl w.heap.size 38 i0 (.agg #[.int .i64 0, .int .i64 0, .slice none 0 0]) 3 40 qunder_sts hi hz0 hz1 hz2 rfl (by decide) _ _ _ rfl ((unhide HSS8).own.alloc _) ⟨w8.heap.size, 0, none⟩ 1 1 [.int .i64 z.kind, .int .i64 z.n, .slice rb z.rows.length rd] rfl rfl (by exact qthree_new _ _ _ _ _ rfl) ?c2 ?c3 ?c4 ?c5 ?_) | fail)
                  case c2 => first | exact ⟨rfl, rfl, rfl⟩ | (intro u hu; simp at hu; rcases hu with rfl | rfl | rfl <;> rfl)
                  case c3 => unfold maxLen; omega
                  case c4 => omega
                  case c5 => first | omega | (simp; omega)
                  intro v' wg hown' hgrow hblk
                  obtain ⟨ua, uc, rfl, _⟩ := ownsRow_slice hown'
                  have HSN := hide (((unhide HSS8).later (under_box (.cells #[.int .i64 z.kind, .int .i64 z.n, .slice rb z.rows.length rd] 38))).snoc hgrow (z, .slice rb z.rows.length rd) ((unhide HRZ8).alloc _) hown')
                  have HLN : Hid (Lr k T V i (j + 1) (L ++ [(z, .slice rb z.rows.length rd)])) := (unhide HLR).more ((unhide HLR).small.snoc (unhide HTW)) (fun y hy => List.mem_append_left _ hy)
                  have HBN : Hid (wg.heap[w5.heap.size]? = some (.cells #[.int .i64 k, .int .i64 0, .slice ra 1 rc] 38 (0, 0))) := by
                    have hne : (Value.slice oa L.length oc).ownBlock ≠ some w5.heap.size := fun e => unhide HQN _ e rfl
                    exact (hgrow.block _ (by simp; omega) (fun e => hne e.symm)).trans ((Below.heap_alloc _ _ _ hlt8).trans (unhide HBX8))
                  have HQN2 : Hid (∀ q, (Value.slice ua (L.length + 1) uc).ownBlock = some q → q ≠ w5.heap.size) := fun q hq => by
                    rcases hblk with h | h
                    · rw [h] at hq
                      exact unhide HQN q hq
                    · have h1 := h q hq
                      omega
                  have HRON : Hid (wg.ownsRow 0 77 2 (.slice ra 1 rc) 1 (R9 [(ti, vj)])) := World.ownsRow.kept ((unhide HRO8).alloc _) hgrow (own_apartS (unhide HRO8) (unhide HSS8).own (by decide))
                  clear hown' hgrow hblk HSS8 HLR HQN HBX8 HRO8 HRZ8 hlt8 hsz8
                  go_wp2_with fail
                  go_roundw
                  case rel => exact ⟨h + 1, L ++ [(z, .slice rb z.rows.length rd)], ua, uc, by omega, by simp; omega, by simp, by go_num, unhide HSN, unhide HLN, unhide HBN, fun q hq => unhide HQN2 q (by simpa using hq), unhide HRON⟩
                  case measure => simp [intOf]; omega
                · have n1 : ¬ (h : Int) < ((V.length : Nat) : Int) := by omega
                  clear hlow
                  go_wp2_with fail
                  go_roundw
                  case rel => exact ⟨g + 1, L, oa, oc, by omega, by omega, rfl, by go_num, unhide HSS, unhide HLR, unhide HBX, unhide HQN, unhide HRO⟩
                  case measure => simp [intOf]; omega
            · have m1 : ¬ (g : Int) < ((T.length : Nat) : Int) := by omega
              clear hlow
              go_wp2_with fail
              go_roundw
              case rel => exact ⟨j + 1, L, oa, oc, by omega, by omega, rfl, by go_num, unhide HSS, unhide HLR⟩
              case measure => simp [intOf]; omega
        · have k1 : ¬ (j : Int) < ((V.length : Nat) : Int) := by omega
          have hjv : j = V.length := by omega
          have HLR2 : Hid (Lr k T V (i + 1) 0 L) := (hjv ▸ unhide HLR).row
          clear hlow hjv
          go_wp2_with fail
          go_roundw
          case rel => exact ⟨i + 1, L, oa, oc, by omega, by omega, rfl, by go_num, unhide HSS, unhide HLR2⟩
          case measure => simp [intOf]; omega
    · have j1 : ¬ (i : Int) < ((T.length : Nat) : Int) := by omega
      clear hlow
      go_wp2_with fail
      go_ret
      refine ⟨oa, oc, L, rfl, by omega, unhide HSS, (unhide HLR).small, fun t ht u hu => ?_⟩
      obtain ⟨i', hi', rfl⟩ := List.getElem_of_mem ht
      obtain ⟨j', hj', rfl⟩ := List.getElem_of_mem hu
      exact (unhide HLR).got i' hi' j' hj' (Or.inl (by omega))
end Go.Proofs.YteaiidcconggcaaDoor
