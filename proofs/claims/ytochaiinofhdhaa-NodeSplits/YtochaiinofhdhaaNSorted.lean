/- The contracts of the law's sorted, Leaf, Inner, and of a node's Find. -/
import Derived.Test.YtochaiinofhdhaaNAwake
import Derived.Test.YtochaiinofhdhaaNOrder
import Derived.Test.YtochaiinofhdhaaNShelf2
import Derived.Test.YtochaiinofhdhaaAOpen
import Derived.Sort.OwnSorted
import Derived.Lib.OwnBridge
namespace Go.Proofs.Ytochaiinofhdhaa
open Go.RowKit
set_option linter.unusedVariables false
set_option maxRecDepth 100000

theorem T9_enc (l : List (List UInt8)) : l.map encStr = T9 l := rfl

set_option maxHeartbeats 1600000 in
theorem sorted_any (l : List (List UInt8)) (n m : Nat) (a : Option Addr) (len cap : Nat) (w : World) (hlen : l.length = len) (hm : len ≤ maxLen) (hz : ∀ i (h : i < l.length), l[i].length ≤ maxLen) (ht : Texts w a l)
    (hn : n ≤ 64) (hmm : m ≤ 1048576) :
    Calls Try.prog 59 #[.slice a len cap, .int .i64 n, .int .i64 m] w fun e w' => ∃ v, e = .returned v ∧ w'.ownsRow w.heap.size 9 1 v (Codec.sorts (few l n m)).length (T9 (Codec.sorts (few l n m))) ∧ Below w.heap.size w w' := by
  have HF := hide (few_any l n m a len cap w hlen hm hz ht hn hmm)
  have hfl : (few l n m).length ≤ 64 := by rw [few_length]; omega
  clear hlen hm hz ht
  obtain ⟨F, hF⟩ : ∃ F, few l n m = F := ⟨_, rfl⟩
  rw [hF] at HF hfl ⊢
  clear hF
  go_enter Try.func59, Try.ntmps59
  go_wp2_with fail
  refine (unhide HF).mono ?_
  rintro e w1 ⟨v1, rfl, ho1, hb1⟩
  clear HF
  by_cases hF0 : F = []
  · subst hF0
    obtain ⟨a1, c1, rfl, _⟩ := ownsRow_slice ho1
    have HO := hide ho1
    have HB := hide hb1
    clear ho1 hb1
    go_wp2_with fail
    refine (Try.slices_Sort_string_none a1 c1 w1).mono ?_
    rintro e w2 ⟨rfl, rfl⟩
    go_wp2_with fail
    refine (Try.slices_Compact_string_empty a1 c1 w2).mono ?_
    rintro e w3 ⟨rfl, rfl⟩
    go_wp2_with fail
    go_ret
    have hs0 : Codec.sorts [] = [] := by unfold Codec.sorts Codec.merged; rw [List.mergeSort_nil]; rfl
    rw [hs0]
    exact ⟨_, rfl, unhide HO, unhide HB⟩
  · have hp : 0 < F.length := List.length_pos_iff.2 hF0
    rcases ho1.2 with ⟨e0, h0⟩ | ⟨g, c1, cur, rfl, hbase, hblk, hn1, hn2, hn3, hn4⟩
    · exact absurd h0 (by omega)
    have hb2 : ∀ q os, Below w.heap.size w (Sort.grow (Sort.putRow encStr (Sort.ahead w1 q) g 0 (Codec.merged F).toArray) os) := fun q os => hb1.grown (grownBy_sorted _) hb1.size (fun k e => by cases e; exact hbase)
    have ho2 : ∀ q os, (Sort.grow (Sort.putRow encStr (Sort.ahead w1 q) g 0 (Codec.merged F).toArray) os).ownsRow w.heap.size 9 1 (.slice (some ⟨g, 0, none⟩) F.length c1) F.length ((Codec.merged F).map encStr) := fun q os =>
      ownsRow_sorted (Codec.merged_length F) hbase hblk hn1 hn2 hn3
    have HSO := hide (Try.slices_Sort_string g 0 c1 F w1 (holds_of_block hblk (by rw [Nat.mul_one] at hn4; exact hn4)) (block_lt hblk) (by omega))
    have HB2 := hide hb2
    have HO2 := hide ho2
    unfold maxLen at hn2
    clear hb2 ho2 hblk hn3 hn4 ho1 hb1
    go_wp2_with fail
    refine (unhide HSO).mono ?_
    rintro e w2 ⟨rfl, q, os, hw2⟩
    have ho2 := unhide HO2 q os
    have hb2 := unhide HB2 q os
    have ew : w2 = Sort.grow (Sort.putRow encStr (Sort.ahead w1 q) g 0 (Codec.merged F).toArray) os := hw2
    rw [← ew] at ho2 hb2
    clear ew hw2 HSO HO2 HB2
    obtain ⟨g', c', e', _, hlt, hnc, hcm, hlz, hH⟩ := Lib.holds_of_ownsRow ho2 (by intro e; cases e)
    injection e' with e1 _ e3
    injection e1 with e1
    injection e1 with e1
    subst e1 e3
    have hsl := Codec.sorts_length F
    have HCO := hide (Try.slices_Compact_string g 0 c1 (Codec.merged F) w2 hH (by rw [Codec.merged_length]; omega) (by rw [Codec.merged_length]; exact hn1))
    rw [Codec.merged_length] at HCO
    have HFIN : Hid (∀ q, (Sort.putRow encStr (Sort.ahead w2 q) g 0 (Lib.compact (Codec.merged F) ++ List.replicate (F.length - (Lib.compact (Codec.merged F)).length) []).toArray).ownsRow w.heap.size 9 1 (.slice (some ⟨g, 0, none⟩) (Codec.sorts F).length c1) (Codec.sorts F).length (T9 (Codec.sorts F)) ∧
        Below w.heap.size w (Sort.putRow encStr (Sort.ahead w2 q) g 0 (Lib.compact (Codec.merged F) ++ List.replicate (F.length - (Lib.compact (Codec.merged F)).length) []).toArray)) := fun q => by
      have hlen : (Lib.compact (Codec.merged F) ++ List.replicate (F.length - (Lib.compact (Codec.merged F)).length) []).length = F.length := by
        have : (Lib.compact (Codec.merged F)).length ≤ F.length := hsl
        simp; omega
      have h := Lib.ownsRow_putRow (q := q) (ys := Lib.compact (Codec.merged F) ++ List.replicate (F.length - (Lib.compact (Codec.merged F)).length) []) ho2 hlen hsl
      refine ⟨?_, Lib.below_putRow hb2 hbase⟩
      have et : (Lib.compact (Codec.merged F) ++ List.replicate (F.length - (Lib.compact (Codec.merged F)).length) []).take (Codec.sorts F).length = Codec.sorts F := List.take_left
      rw [et] at h
      exact h
    have esz : (Lib.compact (Codec.merged F)).length = (Codec.sorts F).length := rfl
    rw [esz] at HCO HFIN
    clear hH ho2 hb2 hsl esz
    go_wp2_with fail
    refine (unhide HCO).mono ?_
    rintro e w3 ⟨rfl, q3, rfl⟩
    go_wp2_with fail
    go_ret
    exact ⟨_, rfl, (unhide HFIN q3).1, (unhide HFIN q3).2⟩

/- Behind a search. -/
theorem search_is (l : List (List UInt8)) (x : List UInt8) (h : Codec.Rise l) : Lib.bsGo (fun t => Op.bytesLess (S (l.getD t [])).toList (S x).toList) l.length 0 l.length = Codec.below l x := by
  obtain ⟨k, hk⟩ : ∃ k, Codec.below l x = k := ⟨_, rfl⟩
  have hs := Codec.below_spec l x h
  have hle := Codec.below_le l x
  rw [hk] at hs hle ⊢
  have e : ∀ (f lo hi : Nat), hi ≤ l.length → Lib.bsGo (fun t => Op.bytesLess (S (l.getD t [])).toList (S x).toList) f lo hi = Lib.bsGo (fun t => decide (t < k)) f lo hi := by
    intro f
    induction f with
    | zero => intro lo hi _; rfl
    | succ f ih =>
      intro lo hi hh
      unfold Lib.bsGo
      by_cases hlh : lo < hi
      · rw [if_pos hlh, if_pos hlh]
        have hm : (lo + hi) / 2 < l.length := by omega
        have hv : Op.bytesLess (S (l.getD ((lo + hi) / 2) [])).toList (S x).toList = decide ((lo + hi) / 2 < k) := by
          rw [S_lt]
          have hg : l.getD ((lo + hi) / 2) [] = l[(lo + hi) / 2]'hm := by simp [List.getD, hm]
          rw [hg]
          by_cases hc : (lo + hi) / 2 < k
          · rw [hs.1 _ hm hc, decide_eq_true hc]
          · rw [hs.2 _ hm (by omega), decide_eq_false hc]
        rw [hv, ih _ _ hh, ih _ _ (by omega)]
      · rw [if_neg hlh, if_neg hlh]
  rw [e _ _ _ (Nat.le_refl _)]
  exact Lib.bsGo_spec _ k (fun t ht => decide_eq_true ht) (fun t ht => decide_eq_false (by omega)) _ _ _ (by omega) (by omega) hle

theorem bsearch_any {w : World} {v : Value} {l : List (List UInt8)} (h : Row w v (T9 l)) (hr : Codec.Rise l) (x : List UInt8) (hl : l.length ≤ 1000000) :
    Calls Try.prog 63 #[v, .string (S x)] w fun e w' => e = .returned (.tuple #[.int .i64 (Codec.below l x : Nat), .bool (decide (x ∈ l))]) ∧ Below w.heap.size w w' := by
  obtain ⟨a, c, rfl, h1, h2, h0, h3⟩ := h
  rw [T9_length] at h1 ⊢
  by_cases hz : l = []
  · subst hz
    refine (Any2.slices_BinarySearch_string_empty Try.laysSearchS a c (S x) w).mono ?_
    rintro e w' ⟨rfl, rfl⟩
    exact ⟨by simp [Codec.below], Below.refl _ _⟩
  · have hp : 0 < l.length := List.length_pos_iff.2 hz
    obtain ⟨b, off, e, hlt, _⟩ := h3 0 _ (List.getElem?_eq_getElem (by rw [T9_length]; exact hp))
    cases e
    refine (Any2.slices_BinarySearch_string Try.laysSearchS b off l.length c (fun t => S (l.getD t [])) (S x) w (by omega) ?_).mono ?_
    · intro j hj
      obtain ⟨b', off', e, _, hc⟩ := h3 j _ (List.getElem?_eq_getElem (by rw [T9_length]; exact hj))
      cases e
      rw [hc]
      simp [T9, List.getD, hj]
    · rintro e w' ⟨rfl, q, rfl⟩
      refine ⟨?_, ⟨rfl, rfl, rfl, Nat.le_refl _, fun k hk => rfl⟩⟩
      rw [search_is l x hr]
      have hd : decide (Codec.below l x < l.length ∧ S (l.getD (Codec.below l x) []) = S x) = decide (x ∈ l) := by
        apply decide_eq_decide.2
        rw [Codec.below_at l x hr]
        constructor
        · rintro ⟨hj, e⟩
          refine ⟨hj, ?_⟩
          have := S_inj e
          simpa [List.getD, hj] using this
        · rintro ⟨hj, e⟩
          refine ⟨hj, ?_⟩
          rw [show l.getD (Codec.below l x) [] = l[Codec.below l x]'hj by simp [List.getD, hj], e]
      rw [hd]

def Nd.find (n : Nd) (x : List UInt8) : Nat := if x ∈ n.keys ∧ n.leaf = false then Codec.below n.keys x + 1 else Codec.below n.keys x

set_option maxHeartbeats 1600000 in
theorem find_any {w : World} {v : Value} {n : Nd} (h : NdAt w v n) (hr : Codec.Rise n.keys) (x : List UInt8) (hl : n.keys.length ≤ 1000000) :
    Calls Try.prog 30 #[v, .string (S x)] w fun e w' => e = .returned (.tuple #[.int .i64 (n.find x : Nat), .bool (decide (x ∈ n.keys))]) ∧ Below w.heap.size w w' := by
  obtain ⟨kv, u, d, rfl, h1, h2, h3⟩ := h.rows
  have HS := hide (fun (o : Obj) => bsearch_any (h1.later (below_box (w := w) o)) hr x hl)
  have hbl := Codec.below_le n.keys x
  obtain ⟨R, hR⟩ : ∃ R, n.find x = R := ⟨_, rfl⟩
  unfold Nd.find at hR
  have hw : IntKind.i64.wrap ((Codec.below n.keys x : Int) + 1) = ((Codec.below n.keys x + 1 : Nat) : Int) := by rw [IntKind.wrap_i64]; omega
  rw [show n.find x = R from hR]
  generalize Codec.below n.keys x = K at *
  obtain ⟨ka, kc, rfl, _⟩ := h1.shape
  obtain ⟨ua, uc, rfl, _⟩ := h2.shape
  obtain ⟨da, dc, rfl, _⟩ := h3.shape
  clear h h1 h2 h3
  by_cases hx : x ∈ n.keys
  · rw [decide_eq_true hx] at HS ⊢
    cases hlf : n.leaf
    · rw [if_pos ⟨hx, hlf⟩] at hR
      subst hR
      clear hlf hx
      go_enter Try.func30, Try.ntmps30
      go_wp2_with fail
      refine (unhide HS _).mono ?_
      rintro e w1 ⟨rfl, hb⟩
      rw [World.size_alloc] at hb
      obtain ⟨p0, p1, p2, p3, hz, hlow⟩ := box4 hb
      have HLOW := hide hlow
      clear hb hlow HS
      go_wp2_with fail
      go_ret2
      exact ⟨rfl, unhide HLOW⟩
    · rw [if_neg (by rw [hlf]; simp)] at hR
      subst hR
      clear hlf hx
      go_enter Try.func30, Try.ntmps30
      go_wp2_with fail
      refine (unhide HS _).mono ?_
      rintro e w1 ⟨rfl, hb⟩
      rw [World.size_alloc] at hb
      obtain ⟨p0, p1, p2, p3, hz, hlow⟩ := box4 hb
      have HLOW := hide hlow
      clear hb hlow HS
      go_wp2_with fail
      go_ret2
      exact ⟨rfl, unhide HLOW⟩
  · rw [if_neg (fun h => hx h.1)] at hR
    subst hR
    rw [decide_eq_false hx] at HS ⊢
    clear hx
    go_enter Try.func30, Try.ntmps30
    go_wp2_with fail
    refine (unhide HS _).mono ?_
    rintro e w1 ⟨rfl, hb⟩
    rw [World.size_alloc] at hb
    obtain ⟨p0, p1, p2, p3, hz, hlow⟩ := box4 hb
    have HLOW := hide hlow
    clear hb hlow HS
    go_wp2_with fail
    go_ret2
    exact ⟨rfl, unhide HLOW⟩
end Go.Proofs.Ytochaiinofhdhaa
