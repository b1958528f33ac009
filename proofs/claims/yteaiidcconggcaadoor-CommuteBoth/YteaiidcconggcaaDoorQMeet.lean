/- The states in which two steps may meet, in memory; whether one shows that they conflict, or how a call is answered. -/
import Derived.Test.YteaiidcconggcaaDoorQSts
import Derived.Test.YteaiidcconggcaaDoorMRefs2
import Derived.Test.YteaiidcconggcaaDoorQComm
import Derived.Test.YteaiidcconggcaaDoorVRefCheck
import Derived.Test.YteaiidcconggcaaDoorBundleT7
namespace Go.Proofs.YteaiidcconggcaaDoor
open Go.RowKit
set_option linter.unusedVariables false
set_option maxRecDepth 100000

/- A row of states to be read. -/
structure Sr (oa : Option Addr) (oc : Nat) (L : List (VS × Value)) (wr : World) : Prop where
  own : wr.ownsRow 0 38 3 (.slice oa L.length oc) L.length (E3s L)
  rows : ∀ z ∈ L, wr.ownsRow 0 77 2 z.2 z.1.rows.length (R9 z.1.rows)
theorem Ss.read {W wr : World} {oa : Option Addr} {oc : Nat} {L : List (VS × Value)} (h : Ss W oa oc L wr) : Sr oa oc L wr := ⟨ownsRow_less h.own (Nat.zero_le _), h.rows⟩
theorem Sr.later {wr w5 : World} {oa : Option Addr} {oc : Nat} {L : List (VS × Value)} (h : Sr oa oc L wr) (hb : Below wr.heap.size wr w5) : Sr oa oc L w5 := ⟨ownsRow_below h.own hb, fun z hz => ownsRow_below (h.rows z hz) hb⟩
theorem Sr.at {wr : World} {oa : Option Addr} {oc : Nat} {L : List (VS × Value)} (h : Sr oa oc L wr) (i : Nat) (hi : i < L.length) :
    ∃ b a c, oa = some ⟨b, 0, none⟩ ∧ b < wr.heap.size ∧ (L[i]'hi).2 = .slice a (L[i]'hi).1.rows.length c ∧ wr.cell? ⟨b, i * 3, none⟩ = some (.int .i64 (L[i]'hi).1.kind) ∧ wr.cell? ⟨b, i * 3 + 1, none⟩ = some (.int .i64 (L[i]'hi).1.n) ∧ wr.cell? ⟨b, i * 3 + 2, none⟩ = some (.slice a (L[i]'hi).1.rows.length c) ∧ wr.ownsRow 0 77 2 (.slice a (L[i]'hi).1.rows.length c) (L[i]'hi).1.rows.length (R9 (L[i]'hi).1.rows) := by
  obtain ⟨g0, g1, g2⟩ := E3s_get L i hi
  have hr := h.rows _ (List.getElem_mem hi)
  obtain ⟨a, c, e, _⟩ := ownsRow_slice hr
  rw [e] at hr g2
  rcases h.own.2 with ⟨_, h0⟩ | ⟨g, cap, cur, e2, hb, hh, hn, hm, hs, ht⟩
  · omega
  · injection e2 with e1 _ _
    subst e1
    exact ⟨g, a, c, rfl, block_lt hh, e, ownsRow_cell h.own rfl _ _ g0, ownsRow_cell h.own rfl _ _ g1, ownsRow_cell h.own rfl _ _ g2, hr⟩
/- What the law draws of a step, as far as the states ask for it. -/
structure Dr (p : Stp) : Prop where
  op : okOp p.1.op
  n : I64 p.1.n
  r : I64 p.2.n
theorem small_fit {k : Int} {L : List (VS × Value)} (h : Small k L) (hk : k ≠ 2) (hk3 : k ≠ 3) : ∀ s ∈ L.map Prod.fst, s.fit := fun s hs => by
  obtain ⟨z, hz, rfl⟩ := List.mem_map.mp hs
  obtain ⟨h1, h2, h3, h4⟩ := h.kind z hz
  exact ⟨fun _ => h2, fun e => by rw [h1] at e; rcases e with e | e <;> contradiction, by rw [h1]; exact h4, by rw [h2]; unfold I64; omega⟩
theorem mem_fst {s : VS} {L : List (VS × Value)} (h : ∃ v, (s, v) ∈ L) : s ∈ L.map Prod.fst := by
  obtain ⟨v, hv⟩ := h
  exact List.mem_map.mpr ⟨_, hv, rfl⟩
/- Rows of the keyed types. -/
theorem sts_rows {k : Int} {p q : Stp} {L : List (VS × Value)} (hk : k = 4 ∨ k = 6 ∨ k = 7) (h : Small k L) (hm : ∀ t ∈ [p.1.a, q.1.a, p.2.text, q.2.text], ∀ u ∈ [([] : List UInt8)], ∃ v, ((⟨k, 0, [(t, u)]⟩ : VS), v) ∈ L) : Sts k p q (L.map Prod.fst) where
  kind := fun s hs => by obtain ⟨z, hz, rfl⟩ := List.mem_map.mp hs; exact (h.kind z hz).1
  fit := small_fit h (by omega) (by omega)
  num3 := fun _ _ e => by omega
  few := fun s hs => by obtain ⟨z, hz, rfl⟩ := List.mem_map.mp hs; exact (h.kind z hz).2.2.1
  bare := fun _ _ => mem_fst h.bare
  text := fun e => by omega
  nums := fun e => by omega
  key := fun _ t ht => mem_fst (hm t (by rcases ht with h | h | h | h <;> simp [h]) [] (by simp))
  dir := fun e => by omega
theorem sts_dir {p q : Stp} {L : List (VS × Value)} (h : Small 5 L) (hm : ∀ t ∈ [p.1.a, q.1.a], ∀ u ∈ [[], p.2.text, q.2.text], ∃ v, ((⟨5, 0, [(t, u)]⟩ : VS), v) ∈ L) : Sts 5 p q (L.map Prod.fst) where
  kind := fun s hs => by obtain ⟨z, hz, rfl⟩ := List.mem_map.mp hs; exact (h.kind z hz).1
  fit := small_fit h (by omega) (by omega)
  num3 := fun _ _ e => by omega
  few := fun s hs => by obtain ⟨z, hz, rfl⟩ := List.mem_map.mp hs; exact (h.kind z hz).2.2.1
  bare := fun _ _ => mem_fst h.bare
  text := fun e => by omega
  nums := fun e => by omega
  key := fun e => by omega
  dir := fun _ t ht v hv => mem_fst (hm t (by rcases ht with h | h <;> simp [h]) v (by rcases hv with h | h | h <;> simp [h]))
theorem sts_nums {k : Int} {p q : Stp} {L : List (VS × Value)} (hk : k = 2 ∨ k = 3) (hp : Dr p) (hq : Dr q) (hall : ∀ z ∈ L, ∃ n ∈ [0, p.1.n, q.1.n, wrap64 (p.1.n - 1), wrap64 (q.1.n - 1), p.2.n, q.2.n, 7], z.1 = ⟨k, n, []⟩ ∧ (k = 2 ∨ 0 ≤ n ∧ n ≤ 1125899906842624))
    (hm : ∀ n ∈ [0, p.1.n, q.1.n, wrap64 (p.1.n - 1), wrap64 (q.1.n - 1), p.2.n, q.2.n, 7], (k = 2 ∨ 0 ≤ n ∧ n ≤ 1125899906842624) → ∃ v, ((⟨k, n, []⟩ : VS), v) ∈ L) : Sts k p q (L.map Prod.fst) where
  kind := fun s hs => by obtain ⟨z, hz, rfl⟩ := List.mem_map.mp hs; obtain ⟨n, _, e, _⟩ := hall z hz; rw [e]
  fit := fun s hs => by
    obtain ⟨z, hz, rfl⟩ := List.mem_map.mp hs
    obtain ⟨n, hn, e, _⟩ := hall z hz
    rw [e]
    refine ⟨fun e => by dsimp only at e; omega, fun _ => rfl, Or.inr List.Pairwise.nil, ?_⟩
    have w1 := wrap_i64 (p.1.n - 1)
    have w2 := wrap_i64 (q.1.n - 1)
    simp only [List.mem_cons, List.not_mem_nil, or_false] at hn
    rcases hn with rfl | rfl | rfl | rfl | rfl | rfl | rfl | rfl
    · unfold I64; dsimp only; omega
    · exact hp.n
    · exact hq.n
    · exact w1
    · exact w2
    · exact hp.r
    · exact hq.r
    · unfold I64; dsimp only; omega
  num3 := fun s hs e => by obtain ⟨z, hz, rfl⟩ := List.mem_map.mp hs; obtain ⟨n, _, e2, h⟩ := hall z hz; rw [e2]; exact h.resolve_left (by omega)
  few := fun s hs => by obtain ⟨z, hz, rfl⟩ := List.mem_map.mp hs; obtain ⟨n, _, e2, h⟩ := hall z hz; rw [e2]; simp
  bare := fun e1 e2 => by omega
  text := fun e => by omega
  nums := fun _ n hn hc => mem_fst (hm n (by simp only [List.mem_cons, List.not_mem_nil, or_false]; rcases hn with h | h | h | h | h | h | h <;> simp [h]) hc)
  key := fun e => by omega
  dir := fun e => by omega
theorem sts_text {p q : Stp} {L : List (VS × Value)} (h : Small 1 L) (hm : ∀ t ∈ [p.1.a, q.1.a, p.2.text, q.2.text], t ≠ [] → ∃ v, ((⟨1, 0, [(t, [])]⟩ : VS), v) ∈ L) : Sts 1 p q (L.map Prod.fst) where
  kind := fun s hs => by obtain ⟨z, hz, rfl⟩ := List.mem_map.mp hs; exact (h.kind z hz).1
  fit := small_fit h (by omega) (by omega)
  num3 := fun _ _ e => by omega
  few := fun s hs => by obtain ⟨z, hz, rfl⟩ := List.mem_map.mp hs; exact (h.kind z hz).2.2.1
  bare := fun _ _ => mem_fst h.bare
  text := fun _ t ht => fun hne => mem_fst (hm t (by rcases ht with h | h | h | h <;> simp [h]) hne)
  nums := fun e => by omega
  key := fun e => by omega
  dir := fun e => by omega
theorem cells_of {w : World} {B : Nat} {cs : Array Value} {t : TypeId} (h : w.heap[B]? = some (.cells cs t (0, 0))) {l : List (List UInt8)} (hc : cs.toList = l.map fun x => .string (S x)) : ∀ i (hi : i < l.length), w.cell? ⟨B, i, none⟩ = some (.string (S (l[i]'hi))) := fun i hi => by
  rw [block_cell h, ← Array.getElem?_toList, hc, List.getElem?_map, List.getElem?_eq_getElem hi]
  rfl
theorem cells_num {w : World} {B : Nat} {cs : Array Value} {t : TypeId} (h : w.heap[B]? = some (.cells cs t (0, 0))) {l : List Int} (hc : cs.toList = l.map fun x => .int .i64 x) : ∀ i (hi : i < l.length), w.cell? ⟨B, i, none⟩ = some (.int .i64 (l[i]'hi)) := fun i hi => by
  rw [block_cell h, ← Array.getElem?_toList, hc, List.getElem?_map, List.getElem?_eq_getElem hi]
  rfl
theorem four_heap (w : World) (A B C D : Obj) : ((((w.alloc A).alloc B).alloc C).alloc D).heap[w.heap.size]? = some A ∧ ((((w.alloc A).alloc B).alloc C).alloc D).heap[w.heap.size + 1]? = some B ∧ ((((w.alloc A).alloc B).alloc C).alloc D).heap[w.heap.size + 1 + 1]? = some C ∧ ((((w.alloc A).alloc B).alloc C).alloc D).heap[w.heap.size + 1 + 1 + 1]? = some D ∧ Below w.heap.size w ((((w.alloc A).alloc B).alloc C).alloc D) := by
  have h2 := under_two w A B
  have h3 := h2.alloc h2.size C
  have g4 := heap_alloc_new (((w.alloc A).alloc B).alloc C) D
  simp only [World.size_alloc] at g4
  refine ⟨?_, ?_, ?_, g4, h3.alloc h3.size D⟩
  · rw [Below.heap_alloc _ _ _ (by simp only [World.size_alloc]; omega), Below.heap_alloc _ _ _ (by simp only [World.size_alloc]; omega), Below.heap_alloc _ _ _ (by simp)]; exact heap_alloc_new w A
  · rw [Below.heap_alloc _ _ _ (by simp only [World.size_alloc]; omega), Below.heap_alloc _ _ _ (by simp only [World.size_alloc]; omega)]
    have g := heap_alloc_new (w.alloc A) B
    simp only [World.size_alloc] at g
    exact g
  · rw [Below.heap_alloc _ _ _ (by simp)]
    have g := heap_alloc_new ((w.alloc A).alloc B) C
    simp only [World.size_alloc] at g
    exact g
set_option maxHeartbeats 51200000 in
theorem qstates_any {w : World} (p q : Stp) (hp : Dr p) (hq : Dr q) :
    Calls Tryd.prog 30 #[mcV p.1, mrV p.2, mcV q.1, mrV q.2] w fun e w' => ∃ oa oc L, e = .returned (.slice oa L.length oc) ∧ L.length ≤ 200 ∧ Sr oa oc L w' ∧ Sts (kd p) p q (L.map Prod.fst) ∧ Below w.heap.size w w' := by
  have HKI := hide (fun wz : World => rkind_any (w := wz) p.1.op hp.op)
  obtain ⟨K, hK⟩ : ∃ K, kd p = K := ⟨_, rfl⟩
  have hkc : K = 1 ∨ K = 2 ∨ K = 3 ∨ K = 4 ∨ K = 5 ∨ K = 6 ∨ K = 7 := by have := kind_some hp.op; unfold kd at hK; omega
  rw [hK]
  unfold kd at hK
  rw [hK] at HKI
  have HP := hide hp
  have HQ := hide hq
  clear hK hp hq
  have HSN1 := fun (L : List (VS × Value)) => @sts_text p q L
  have HSN2 := fun (L : List (VS × Value)) => @sts_nums K p q L
  have HSN3 := fun (L : List (VS × Value)) => @sts_rows K p q L
  have HSN5 := fun (L : List (VS × Value)) => @sts_dir p q L
  replace HSN1 := hide HSN1
  replace HSN2 := hide HSN2
  replace HSN3 := hide HSN3
  replace HSN5 := hide HSN5
  obtain ⟨⟨o1, a1, b1, n1⟩, ⟨c1, t1, m1⟩⟩ := p
  obtain ⟨⟨o2, a2, b2, n2⟩, ⟨c2, t2, m2⟩⟩ := q
  unfold mcV mrV
  dsimp only at *
  obtain ⟨W, hW⟩ : ∃ W, (((w.alloc (.cells #[.int .i64 o1, .string (S a1), .string (S b1), .int .i64 n1] 29)).alloc (.cells #[.int .i64 c1, .string (S t1), .int .i64 m1] 30)).alloc (.cells #[.int .i64 o2, .string (S a2), .string (S b2), .int .i64 n2] 29)).alloc (.cells #[.int .i64 c2, .string (S t2), .int .i64 m2] 30) = W := ⟨_, rfl⟩
  have HF : Hid (W.heap[w.heap.size]? = some (.cells #[.int .i64 o1, .string (S a1), .string (S b1), .int .i64 n1] 29 (0, 0)) ∧ W.heap[w.heap.size + 1]? = some (.cells #[.int .i64 c1, .string (S t1), .int .i64 m1] 30 (0, 0)) ∧ W.heap[w.heap.size + 1 + 1]? = some (.cells #[.int .i64 o2, .string (S a2), .string (S b2), .int .i64 n2] 29 (0, 0)) ∧ W.heap[w.heap.size + 1 + 1 + 1]? = some (.cells #[.int .i64 c2, .string (S t2), .int .i64 m2] 30 (0, 0)) ∧ Below w.heap.size w W) := by
    show _ ∧ _
    rw [← hW]
    exact four_heap w _ _ _ _
  go_enter Tryd.func30, Tryd.ntmps30
  go_upto_region 1 with fail
  try rw [hW]
  clear hW
  obtain ⟨x0, x1, x2, x3, _⟩ := cell4 (unhide HF).1
  go_wp2_with fail
  refine (unhide HKI _).mono ?_
  rintro e w5 ⟨rfl, hb5⟩
  have HF5 : Hid (w5.heap[w.heap.size]? = some (.cells #[.int .i64 o1, .string (S a1), .string (S b1), .int .i64 n1] 29 (0, 0)) ∧ w5.heap[w.heap.size + 1]? = some (.cells #[.int .i64 c1, .string (S t1), .int .i64 m1] 30 (0, 0)) ∧ w5.heap[w.heap.size + 1 + 1]? = some (.cells #[.int .i64 o2, .string (S a2), .string (S b2), .int .i64 n2] 29 (0, 0)) ∧ w5.heap[w.heap.size + 1 + 1 + 1]? = some (.cells #[.int .i64 c2, .string (S t2), .int .i64 m2] 30 (0, 0)) ∧ Below w.heap.size w w5) := by
    obtain ⟨f1, f2, f3, f4, f5⟩ := unhide HF
    exact ⟨(hb5.block _ (block_lt f1)).trans f1, (hb5.block _ (block_lt f2)).trans f2, (hb5.block _ (block_lt f3)).trans f3, (hb5.block _ (block_lt f4)).trans f4, f5.trans (hb5.mono f5.size)⟩
  clear hb5 HF HKI x0 x1 x2 x3
  obtain ⟨W6, hW6⟩ : ∃ W6, w5.alloc (.cells #[.string (S a1), .string (S a2), .string (S t1), .string (S t2)] 9) = W6 := ⟨_, rfl⟩
  have hb6 : Below w5.heap.size w5 W6 := by rw [← hW6]; exact under_box _
  have HT6 : Hid (W6.heap[w5.heap.size]? = some (.cells #[.string (S a1), .string (S a2), .string (S t1), .string (S t2)] 9 (0, 0))) := by show _ = _; rw [← hW6]; exact heap_alloc_new w5 _
  have HF6 : Hid (W6.heap[w.heap.size]? = some (.cells #[.int .i64 o1, .string (S a1), .string (S b1), .int .i64 n1] 29 (0, 0)) ∧ W6.heap[w.heap.size + 1]? = some (.cells #[.int .i64 c1, .string (S t1), .int .i64 m1] 30 (0, 0)) ∧ W6.heap[w.heap.size + 1 + 1]? = some (.cells #[.int .i64 o2, .string (S a2), .string (S b2), .int .i64 n2] 29 (0, 0)) ∧ W6.heap[w.heap.size + 1 + 1 + 1]? = some (.cells #[.int .i64 c2, .string (S t2), .int .i64 m2] 30 (0, 0)) ∧ Below w.heap.size w W6) := by
    obtain ⟨f1, f2, f3, f4, f5⟩ := unhide HF5
    exact ⟨(hb6.block _ (block_lt f1)).trans f1, (hb6.block _ (block_lt f2)).trans f2, (hb6.block _ (block_lt f3)).trans f3, (hb6.block _ (block_lt f4)).trans f4, f5.trans (hb6.mono f5.size)⟩
  obtain ⟨x0, x1, x2, x3, _⟩ := cell4 (unhide HF5).1
  obtain ⟨y0, y1, y2, _⟩ := cell3 (unhide HF5).2.1
  obtain ⟨z0, z1, z2, z3, _⟩ := cell4 (unhide HF5).2.2.1
  obtain ⟨u0, u1, u2, _⟩ := cell3 (unhide HF5).2.2.2.1
  clear hb6
  go_upto_block 0 with fail
  try rw [hW6]
  clear hW6 x0 x1 x2 x3 y0 y1 y2 z0 z1 z2 z3 u0 u1 u2 HF5
  rcases hkc with rfl | rfl | rfl | rfl | rfl | rfl | rfl
  · clear HSN2 HSN3 HSN5
    obtain ⟨i0, hi, hz0, hz1, hz2⟩ := info_parts qinfo_st
    have HE0 : Hid (Ss W6 (some ⟨W6.heap.size, 0, none⟩) 1 [(⟨1, 0, []⟩, .slice none 0 0)] (W6.alloc (.cells #[.int .i64 1, .int .i64 0, .slice none 0 0] 38))) := ⟨under_box _, World.ownsRow_lit W6 #[.int .i64 1, .int .i64 0, .slice none 0 0] 1 (Nat.le_refl _) (by simp [maxLen]) (by simp), fun z hz => by
      rw [List.mem_singleton.mp hz]
      exact World.ownsRow_nil _ _ _ _⟩
    have HS0 : Hid (Small 1 [(⟨1, 0, []⟩, .slice none 0 0)]) := ⟨fun z hz => by rw [List.mem_singleton.mp hz]; exact ⟨rfl, rfl, by simp, Or.inr List.Pairwise.nil⟩, _, List.mem_singleton.mpr rfl⟩
    obtain ⟨T, hT⟩ : ∃ T, [a1, a2, t1, t2] = T := ⟨_, rfl⟩
    have hTl : T.length = 4 := by rw [← hT]; rfl
    have HTC := hide (cells_of (unhide HT6) (l := T) (by rw [← hT]; rfl))
    have HTE := hide hT
    have htb := block_lt (unhide HT6)
    clear hT HT6
    go_wp2_with fail
    go_loopw [11, 33, 13] (fun ov iv _ wr => ∃ (i : Nat) (L : List (VS × Value)) (oa : Option Addr) (oc : Nat), i ≤ 4 ∧ L.length ≤ 1 + i ∧ ov = .slice oa L.length oc ∧ iv = .int .i64 (i : Int) ∧ Ss W6 oa oc L wr ∧ Small 1 L ∧ (∀ j (h : j < T.length), j < i → T[j]'h ≠ [] → ∃ v, ((⟨1, 0, [(T[j]'h, [])]⟩ : VS), v) ∈ L)) (fun _ iv _ _ => 4 - (intOf iv).toNat)
    case atStart => exact ⟨0, [(⟨1, 0, []⟩, .slice none 0 0)], _, 1, by omega, by simp, rfl, rfl, unhide HE0, unhide HS0, fun j h hj => (by omega)⟩
    case round =>
      obtain ⟨i, L, oa, oc, hil, hLi, rfl, rfl, hss, hsm, hin⟩ := hrel
      have HSS := hide hss
      have HSM := hide hsm
      have HIN := hide hin
      have hlow := hss.low
      clear hss hsm hin
      by_cases hlt : i < T.length
      · have j1 : (i : Int) < 4 := by omega
        have j0 : (0 : Int) ≤ (i : Int) := by omega
        have f0 := (hlow.cell (p := ⟨w5.heap.size, i, none⟩) htb).trans (unhide HTC i hlt)
        have HNX : Hid (∀ (L' : List (VS × Value)), (∀ z ∈ L, z ∈ L') → (T[i]'hlt ≠ [] → ∃ v, ((⟨1, 0, [(T[i]'hlt, [])]⟩ : VS), v) ∈ L') → ∀ j (h : j < T.length), j < i + 1 → T[j]'h ≠ [] → ∃ v, ((⟨1, 0, [(T[j]'h, [])]⟩ : VS), v) ∈ L') := fun L' hsub hi' j h hj hc => by
          by_cases e : j = i
          · subst e; exact hi' hc
          · obtain ⟨v, hv⟩ := unhide HIN j h (by omega) hc
            exact ⟨v, hsub _ hv⟩
        generalize T[i]'hlt = t at *
        have hsz := hlow.size
        have HLW := hide hlow
        clear hlow
        by_cases ht : t = []
        · subst ht
          have e2 : (S []).toList.isEmpty = true := by rw [S_isEmpty]; rfl
          have HNN := hide (unhide HNX L (fun z hz => hz) (fun h => absurd rfl h))
          go_wp2_with fail
          go_roundw
          case rel => exact ⟨i + 1, L, oa, oc, by omega, by omega, rfl, by go_num, unhide HSS, unhide HSM, unhide HNN⟩
          case measure => simp [intOf]; omega
        · have e2 : (S t).toList.isEmpty = false := by rw [S_isEmpty]; cases t with | nil => exact absurd rfl ht | cons x r => rfl
          have HRO : Hid ((wr.alloc (.cells #[.string (S t), .string ⟨#[]⟩] 77)).ownsRow 0 77 2 (.slice (some ⟨wr.heap.size, 0, none⟩) 1 1) 1 (R9 [(t, [])])) := World.ownsRow_lit wr #[.string (S t), .string ⟨#[]⟩] 1 (Nat.zero_le _) (by simp [maxLen]) (by simp)
          go_wp2_with (first | (at_builtin; refine wpList_append_fresh rfl _ _ 71 rfl W6.heap.size 38 i0 (.agg #[.int .i64 0, .int .i64 0, .slice none 0 0]) 3 40 qunder_sts hi hz0 hz1 hz2 rfl (by decide) _ _ _ rfl (((unhide HSS).own.alloc _).alloc _) ⟨wr.heap.size + 1, 0, none⟩ 1 1 [.int .i64 1, .int .i64 0, .slice (some ⟨wr.heap.size, 0, none⟩) 1 1] rfl rfl (by exact qthree_new _ _ _ _ _ (by simp)) ?c2 ?c3 ?c4 ?c5 ?_) | fail)
          case c2 => first | exact ⟨rfl, rfl, rfl⟩ | (intro u hu; simp at hu; rcases hu with rfl | rfl | rfl <;> rfl)
          case c3 => unfold maxLen; omega
          case c4 => omega
          case c5 => first | omega | (simp; omega)
          intro v' wg hown' hgrow _
          obtain ⟨ua, uc, rfl, _⟩ := ownsRow_slice hown'
          have HSN := hide ((((unhide HSS).later (under_box (.cells #[.string (S t), .string ⟨#[]⟩] 77))).later (under_box (.cells #[.int .i64 1, .int .i64 0, .slice (some ⟨wr.heap.size, 0, none⟩) 1 1] 38))).snoc hgrow (⟨1, 0, [(t, [])]⟩, .slice (some ⟨wr.heap.size, 0, none⟩) 1 1) ((unhide HRO).alloc _) hown')
          have HSM2 := hide ((unhide HSM).snoc (z := (⟨1, 0, [(t, [])]⟩, .slice (some ⟨wr.heap.size, 0, none⟩) 1 1)) (one_small 1 t []))
          have HNN := hide (unhide HNX (L ++ [(⟨1, 0, [(t, [])]⟩, .slice (some ⟨wr.heap.size, 0, none⟩) 1 1)]) (fun z hz => List.mem_append_left _ hz) (fun _ => ⟨_, List.mem_append_right _ (List.mem_singleton.mpr rfl)⟩))
          clear hown' hgrow f0
          go_wp2_with fail
          go_roundw
          case rel => exact ⟨i + 1, L ++ [(⟨1, 0, [(t, [])]⟩, .slice (some ⟨wr.heap.size, 0, none⟩) 1 1)], ua, uc, by omega, by simp; omega, by simp, by go_num, unhide HSN, unhide HSM2, unhide HNN⟩
          case measure => simp [intOf]; omega
      · have j1 : ¬ (i : Int) < 4 := by omega
        clear hlow
        go_wp2_with fail
        go_ret
        refine ⟨oa, oc, L, rfl, by omega, (unhide HSS).read, unhide HSN1 L (unhide HSM) (fun t ht hne => ?_), (unhide HF6).2.2.2.2.trans ((unhide HSS).low.mono (unhide HF6).2.2.2.2.size)⟩
        rw [unhide HTE] at ht
        obtain ⟨j, hj, rfl⟩ := List.getElem_of_mem ht
        exact unhide HIN j hj (by omega) hne
  · -- a number
    clear HSN1 HSN3 HSN5
    obtain ⟨W8, hW8⟩ : ∃ W8, W6.alloc (.cells #[.int .i64 0, .int .i64 n1, .int .i64 n2, .int .i64 (wrap64 (n1 - 1)), .int .i64 (wrap64 (n2 - 1)), .int .i64 m1, .int .i64 m2, .int .i64 7] 2) = W8 := ⟨_, rfl⟩
    have hb8 : Below W6.heap.size W6 W8 := by rw [← hW8]; exact under_box _
    have hA : W8.heap[W6.heap.size]? = some (.cells #[.int .i64 0, .int .i64 n1, .int .i64 n2, .int .i64 (wrap64 (n1 - 1)), .int .i64 (wrap64 (n2 - 1)), .int .i64 m1, .int .i64 m2, .int .i64 7] 2 (0, 0)) := by rw [← hW8]; exact heap_alloc_new W6 _
    have e1 : ∀ x : Int, IntKind.i64.wrap x = wrap64 x := fun x => by rw [IntKind.wrap_i64]; unfold wrap64; omega
    have HNM := hide (qnums_any (w := W8) 2 W6.heap.size [0, n1, n2, wrap64 (n1 - 1), wrap64 (n2 - 1), m1, m2, 7] (by simp) (cells_num hA rfl) (block_lt hA) 8)
    have HB8 := hide hb8
    obtain ⟨x0, x1, x2, x3, _⟩ := cell4 (unhide HF6).1
    obtain ⟨y0, y1, y2, _⟩ := cell3 (unhide HF6).2.1
    obtain ⟨z0, z1, z2, z3, _⟩ := cell4 (unhide HF6).2.2.1
    obtain ⟨u0, u1, u2, _⟩ := cell3 (unhide HF6).2.2.2.1
    clear hb8 hA e1 HT6
    go_wp2_with fail
    try rw [hW8]
    clear hW8 x0 x1 x2 x3 y0 y1 y2 z0 z1 z2 z3 u0 u1 u2
    refine (unhide HNM).mono ?_
    rintro e w9 ⟨oa, oc, L, rfl, hl, hss, hall, hm⟩
    have HSR := hide hss.read
    have HST := hide (unhide HSN2 L (by simp) (unhide HP) (unhide HQ) hall hm)
    have HLW := hide ((unhide HF6).2.2.2.2.trans (((unhide HB8).trans (hss.low.mono (unhide HB8).size)).mono (unhide HF6).2.2.2.2.size))
    clear hss hall hm HNM
    go_wp2_with fail
    go_ret
    exact ⟨oa, oc, L, rfl, hl, unhide HSR, unhide HST, unhide HLW⟩
  · -- a number
    clear HSN1 HSN3 HSN5
    obtain ⟨W8, hW8⟩ : ∃ W8, W6.alloc (.cells #[.int .i64 0, .int .i64 n1, .int .i64 n2, .int .i64 (wrap64 (n1 - 1)), .int .i64 (wrap64 (n2 - 1)), .int .i64 m1, .int .i64 m2, .int .i64 7] 2) = W8 := ⟨_, rfl⟩
    have hb8 : Below W6.heap.size W6 W8 := by rw [← hW8]; exact under_box _
    have hA : W8.heap[W6.heap.size]? = some (.cells #[.int .i64 0, .int .i64 n1, .int .i64 n2, .int .i64 (wrap64 (n1 - 1)), .int .i64 (wrap64 (n2 - 1)), .int .i64 m1, .int .i64 m2, .int .i64 7] 2 (0, 0)) := by rw [← hW8]; exact heap_alloc_new W6 _
    have e1 : ∀ x : Int, IntKind.i64.wrap x = wrap64 x := fun x => by rw [IntKind.wrap_i64]; unfold wrap64; omega
    have HNM := hide (qnums_any (w := W8) 3 W6.heap.size [0, n1, n2, wrap64 (n1 - 1), wrap64 (n2 - 1), m1, m2, 7] (by simp) (cells_num hA rfl) (block_lt hA) 8)
    have HB8 := hide hb8
    obtain ⟨x0, x1, x2, x3, _⟩ := cell4 (unhide HF6).1
    obtain ⟨y0, y1, y2, _⟩ := cell3 (unhide HF6).2.1
    obtain ⟨z0, z1, z2, z3, _⟩ := cell4 (unhide HF6).2.2.1
    obtain ⟨u0, u1, u2, _⟩ := cell3 (unhide HF6).2.2.2.1
    clear hb8 hA e1 HT6
    go_wp2_with fail
    try rw [hW8]
    clear hW8 x0 x1 x2 x3 y0 y1 y2 z0 z1 z2 z3 u0 u1 u2
    refine (unhide HNM).mono ?_
    rintro e w9 ⟨oa, oc, L, rfl, hl, hss, hall, hm⟩
    have HSR := hide hss.read
    have HST := hide (unhide HSN2 L (by simp) (unhide HP) (unhide HQ) hall hm)
    have HLW := hide ((unhide HF6).2.2.2.2.trans (((unhide HB8).trans (hss.low.mono (unhide HB8).size)).mono (unhide HF6).2.2.2.2.size))
    clear hss hall hm HNM
    go_wp2_with fail
    go_ret
    exact ⟨oa, oc, L, rfl, hl, unhide HSR, unhide HST, unhide HLW⟩
  · -- rows
    clear HSN1 HSN2 HSN5
    obtain ⟨W8, hW8⟩ : ∃ W8, W6.alloc (.cells #[.string ⟨#[]⟩] 9) = W8 := ⟨_, rfl⟩
    have hb8 : Below W6.heap.size W6 W8 := by rw [← hW8]; exact under_box _
    have hB : W8.heap[W6.heap.size]? = some (.cells #[.string ⟨#[]⟩] 9 (0, 0)) := by rw [← hW8]; exact heap_alloc_new W6 _
    have hA := (hb8.block _ (block_lt (unhide HT6))).trans (unhide HT6)
    have HRW := hide (qrows_any (w := W8) 4 w5.heap.size [a1, a2, t1, t2] (by simp) (cells_of hA rfl) (block_lt hA) 4 W6.heap.size [[]] (by simp) (cells_of hB rfl) (block_lt hB) 1)
    have HB8 := hide hb8
    clear hb8 hA hB HT6
    go_wp2_with fail
    try rw [hW8]
    clear hW8
    refine (unhide HRW).mono ?_
    rintro e w9 ⟨oa, oc, L, rfl, hl, hss, hsm, hm⟩
    have HSR := hide hss.read
    have HST := hide (unhide HSN3 L (by simp) hsm hm)
    have HLW := hide ((unhide HF6).2.2.2.2.trans (((unhide HB8).trans (hss.low.mono (unhide HB8).size)).mono (unhide HF6).2.2.2.2.size))
    clear hss hsm hm HRW
    go_wp2_with fail
    go_ret
    exact ⟨oa, oc, L, rfl, hl, unhide HSR, unhide HST, unhide HLW⟩
  · -- a directory
    clear HSN1 HSN2 HSN3
    obtain ⟨W8, hW8⟩ : ∃ W8, (W6.alloc (.cells #[.string (S a1), .string (S a2)] 9)).alloc (.cells #[.string ⟨#[]⟩, .string (S t1), .string (S t2)] 9) = W8 := ⟨_, rfl⟩
    have hb8 : Below W6.heap.size W6 W8 := by rw [← hW8]; exact (under_box _).trans ((under_box _).mono (by simp))
    have hA : W8.heap[W6.heap.size]? = some (.cells #[.string (S a1), .string (S a2)] 9 (0, 0)) := by rw [← hW8, Below.heap_alloc _ _ _ (by simp)]; exact heap_alloc_new W6 _
    have hB : W8.heap[W6.heap.size + 1]? = some (.cells #[.string ⟨#[]⟩, .string (S t1), .string (S t2)] 9 (0, 0)) := by
      rw [← hW8]
      have g := heap_alloc_new (W6.alloc (.cells #[.string (S a1), .string (S a2)] 9)) (.cells #[.string ⟨#[]⟩, .string (S t1), .string (S t2)] 9)
      simp only [World.size_alloc] at g
      exact g
    have HRW := hide (qrows_any (w := W8) 5 W6.heap.size [a1, a2] (by simp) (cells_of hA rfl) (block_lt hA) 2 (W6.heap.size + 1) [[], t1, t2] (by simp) (cells_of hB rfl) (block_lt hB) 3)
    have HB8 := hide hb8
    obtain ⟨x0, x1, x2, x3, _⟩ := cell4 (unhide HF6).1
    obtain ⟨y0, y1, y2, _⟩ := cell3 (unhide HF6).2.1
    obtain ⟨z0, z1, z2, z3, _⟩ := cell4 (unhide HF6).2.2.1
    obtain ⟨u0, u1, u2, _⟩ := cell3 (unhide HF6).2.2.2.1
    have hl1 := block_lt (unhide HF6).1
    have hl2 := block_lt (unhide HF6).2.1
    have hl3 := block_lt (unhide HF6).2.2.1
    have hl4 := block_lt (unhide HF6).2.2.2.1
    clear hb8 hA hB HT6
    go_wp2_with fail
    try rw [hW8]
    clear hW8 x0 x1 x2 x3 y0 y1 y2 z0 z1 z2 z3 u0 u1 u2 hl1 hl2 hl3 hl4
    refine (unhide HRW).mono ?_
    rintro e w9 ⟨oa, oc, L, rfl, hl, hss, hsm, hm⟩
    have HSR := hide hss.read
    have HST := hide (unhide HSN5 L hsm hm)
    have HLW := hide ((unhide HF6).2.2.2.2.trans (((unhide HB8).trans (hss.low.mono (unhide HB8).size)).mono (unhide HF6).2.2.2.2.size))
    clear hss hsm hm HRW
    go_wp2_with fail
    go_ret
    exact ⟨oa, oc, L, rfl, hl, unhide HSR, unhide HST, unhide HLW⟩
  · -- rows
    clear HSN1 HSN2 HSN5
    obtain ⟨W8, hW8⟩ : ∃ W8, W6.alloc (.cells #[.string ⟨#[]⟩] 9) = W8 := ⟨_, rfl⟩
    have hb8 : Below W6.heap.size W6 W8 := by rw [← hW8]; exact under_box _
    have hB : W8.heap[W6.heap.size]? = some (.cells #[.string ⟨#[]⟩] 9 (0, 0)) := by rw [← hW8]; exact heap_alloc_new W6 _
    have hA := (hb8.block _ (block_lt (unhide HT6))).trans (unhide HT6)
    have HRW := hide (qrows_any (w := W8) 6 w5.heap.size [a1, a2, t1, t2] (by simp) (cells_of hA rfl) (block_lt hA) 4 W6.heap.size [[]] (by simp) (cells_of hB rfl) (block_lt hB) 1)
    have HB8 := hide hb8
    clear hb8 hA hB HT6
    go_wp2_with fail
    try rw [hW8]
    clear hW8
    refine (unhide HRW).mono ?_
    rintro e w9 ⟨oa, oc, L, rfl, hl, hss, hsm, hm⟩
    have HSR := hide hss.read
    have HST := hide (unhide HSN3 L (by simp) hsm hm)
    have HLW := hide ((unhide HF6).2.2.2.2.trans (((unhide HB8).trans (hss.low.mono (unhide HB8).size)).mono (unhide HF6).2.2.2.2.size))
    clear hss hsm hm HRW
    go_wp2_with fail
    go_ret
    exact ⟨oa, oc, L, rfl, hl, unhide HSR, unhide HST, unhide HLW⟩
  · -- rows
    clear HSN1 HSN2 HSN5
    obtain ⟨W8, hW8⟩ : ∃ W8, W6.alloc (.cells #[.string ⟨#[]⟩] 9) = W8 := ⟨_, rfl⟩
    have hb8 : Below W6.heap.size W6 W8 := by rw [← hW8]; exact under_box _
    have hB : W8.heap[W6.heap.size]? = some (.cells #[.string ⟨#[]⟩] 9 (0, 0)) := by rw [← hW8]; exact heap_alloc_new W6 _
    have hA := (hb8.block _ (block_lt (unhide HT6))).trans (unhide HT6)
    have HRW := hide (qrows_any (w := W8) 7 w5.heap.size [a1, a2, t1, t2] (by simp) (cells_of hA rfl) (block_lt hA) 4 W6.heap.size [[]] (by simp) (cells_of hB rfl) (block_lt hB) 1)
    have HB8 := hide hb8
    clear hb8 hA hB HT6
    go_wp2_with fail
    try rw [hW8]
    clear hW8
    refine (unhide HRW).mono ?_
    rintro e w9 ⟨oa, oc, L, rfl, hl, hss, hsm, hm⟩
    have HSR := hide hss.read
    have HST := hide (unhide HSN3 L (by simp) hsm hm)
    have HLW := hide ((unhide HF6).2.2.2.2.trans (((unhide HB8).trans (hss.low.mono (unhide HB8).size)).mono (unhide HF6).2.2.2.2.size))
    clear hss hsm hm HRW
    go_wp2_with fail
    go_ret
    exact ⟨oa, oc, L, rfl, hl, unhide HSR, unhide HST, unhide HLW⟩

theorem good_any {w : World} {s : VS} {v : Value} (h : StAt w v s) : Calls Tryd.prog 31 #[v] w fun e w' => e = .returned (.bool (decide (s.check = 0))) ∧ Below w.heap.size w w' := by
  have HCK := hide (fun (wz : World) (hb : Below w.heap.size w wz) => rcheck_any (h.later hb))
  obtain ⟨k0, rfl, hr⟩ := h
  obtain ⟨a, c, rfl, _⟩ := hr.shape
  have HB := hide (under_box (w := w) (.cells #[.int .i64 s.kind, .int .i64 s.n, .slice a s.rows.length c] 38))
  clear hr
  go_enter Tryd.func31, Tryd.ntmps31
  go_wp2_with fail
  refine (unhide HCK _ (unhide HB)).mono ?_
  rintro e w5 ⟨rfl, hb5⟩
  have HL := hide ((unhide HB).trans (hb5.mono (unhide HB).size))
  clear hb5
  by_cases h0 : s.check = 0
  · have e1 : (s.check == 0) = true := by rw [h0]; rfl
    go_wp2_with fail
    go_ret
    exact ⟨by first | rfl | (rw [decide_eq_true h0]; rfl) | simp [h0], unhide HL⟩
  · have e1 : (s.check == 0) = false := by simpa using h0
    go_wp2_with fail
    go_ret
    exact ⟨by first | rfl | (rw [decide_eq_false h0]; rfl) | simp [h0], unhide HL⟩
theorem any_none {α : Type} (f : α → Bool) (l : List α) (h : ∀ j (hj : j < l.length), f (l[j]'hj) = false) : l.any f = false := by
  rw [List.any_eq_false]
  intro x hx
  obtain ⟨j, hj, rfl⟩ := List.getElem_of_mem hx
  rw [h j hj]
  simp
theorem any_fst (f : VS → Bool) (L : List (VS × Value)) : (L.map Prod.fst).any f = L.any fun z => f z.1 := by
  induction L with
  | nil => rfl
  | cons x r ih => simp [ih]
set_option maxHeartbeats 51200000 in
theorem rmeet_any {w : World} (p q : Stp) (gp : Gv p) (gq : Gv q) (hk : kd p = kd q) :
    Calls Tryd.prog 14 #[mcV p.1, mrV p.2, mcV q.1, mrV q.2] w fun e w' => e = .returned (.bool (conM p q)) ∧ Below w.heap.size w w' := by
  have HST := hide (fun wz : World => qstates_any (w := wz) p q ⟨MC.may_op gp.may, gp.may.2, gp.i64⟩ ⟨MC.may_op gq.may, gq.may.2, gq.i64⟩)
  have HEX := hide (fun L (hL : Sts (kd p) p q L) => meet_exact hL gp gq hk)
  have HCM := hide (fun (wz : World) (s : VS) (sa : Option Addr) (sc : Nat) (h : wz.ownsRow 0 77 2 (.slice sa s.rows.length sc) s.rows.length (R9 s.rows)) (hs : s.rows.length ≤ 900) (hf : s.fit) => rcomm_any (x := p) (y := q) h hs (MC.may_op gp.may) (MC.may_op gq.may) (may_nob gp.may) (may_nob gq.may) hf)
  clear gp gq hk
  obtain ⟨CV, hCV⟩ : ∃ CV, conM p q = CV := ⟨_, rfl⟩
  rw [hCV] at HEX ⊢
  obtain ⟨cf, hcf⟩ : ∃ cf : VS → Bool, (fun s => comM s p q) = cf := ⟨_, rfl⟩
  have hcf' : ∀ s, comM s p q = cf s := fun s => by rw [← hcf]
  simp only [hcf'] at HEX HCM
  obtain ⟨St0, hSt0⟩ : ∃ St0 : List VS → Prop, (fun L => Sts (kd p) p q L) = St0 := ⟨_, rfl⟩
  have hStx : ∀ L, Sts (kd p) p q L = St0 L := fun L => by rw [← hSt0]
  have HFT := hide (fun L (h : St0 L) => by rw [← hStx] at h; exact (⟨h.fit, h.few⟩ : (∀ s ∈ L, s.fit) ∧ (∀ s ∈ L, s.rows.length ≤ 2)))
  simp only [hStx] at HEX HST
  clear hCV hcf hcf' hSt0 hStx
  obtain ⟨⟨o1, a1, b1, n1⟩, ⟨c1, t1, m1⟩⟩ := p
  obtain ⟨⟨o2, a2, b2, n2⟩, ⟨c2, t2, m2⟩⟩ := q
  unfold mcV mrV at HST HCM ⊢
  dsimp only at *
  obtain ⟨W, hW⟩ : ∃ W, (((w.alloc (.cells #[.int .i64 o1, .string (S a1), .string (S b1), .int .i64 n1] 29)).alloc (.cells #[.int .i64 c1, .string (S t1), .int .i64 m1] 30)).alloc (.cells #[.int .i64 o2, .string (S a2), .string (S b2), .int .i64 n2] 29)).alloc (.cells #[.int .i64 c2, .string (S t2), .int .i64 m2] 30) = W := ⟨_, rfl⟩
  have HF : Hid (W.heap[w.heap.size]? = some (.cells #[.int .i64 o1, .string (S a1), .string (S b1), .int .i64 n1] 29 (0, 0)) ∧ W.heap[w.heap.size + 1]? = some (.cells #[.int .i64 c1, .string (S t1), .int .i64 m1] 30 (0, 0)) ∧ W.heap[w.heap.size + 1 + 1]? = some (.cells #[.int .i64 o2, .string (S a2), .string (S b2), .int .i64 n2] 29 (0, 0)) ∧ W.heap[w.heap.size + 1 + 1 + 1]? = some (.cells #[.int .i64 c2, .string (S t2), .int .i64 m2] 30 (0, 0)) ∧ Below w.heap.size w W) := by
    show _ ∧ _
    rw [← hW]
    exact four_heap w _ _ _ _
  go_enter Tryd.func14, Tryd.ntmps14
  go_upto_region 1 with fail
  try rw [hW]
  clear hW
  obtain ⟨x0, x1, x2, x3, _⟩ := cell4 (unhide HF).1
  obtain ⟨y0, y1, y2, _⟩ := cell3 (unhide HF).2.1
  obtain ⟨z0, z1, z2, z3, _⟩ := cell4 (unhide HF).2.2.1
  obtain ⟨u0, u1, u2, _⟩ := cell3 (unhide HF).2.2.2.1
  go_wp2_with fail
  refine (unhide HST _).mono ?_
  rintro e w5 ⟨oa, oc, L, rfl, hl, hsr, hst, hb5⟩
  have HSR := hide hsr
  have HFT2 := hide (unhide HFT _ hst)
  have HRES := hide (unhide HEX _ hst)
  have HB5 := hide hb5
  clear hsr hst hb5 HEX HST HFT x0 x1 x2 x3 y0 y1 y2 z0 z1 z2 z3 u0 u1 u2
  go_wp2_with fail
  go_loopw [17, 10] (fun iv _ wr => ∃ i : Nat, i ≤ L.length ∧ iv = .int .i64 (i : Int) ∧ Below w5.heap.size w5 wr ∧ ∀ j (h : j < L.length), j < i → (decide ((L[j]'h).1.check = 0) && !cf (L[j]'h).1) = false) (fun iv _ _ => L.length - (intOf iv).toNat)
  case atStart => exact ⟨0, Nat.zero_le _, rfl, Below.refl _ _, fun j h hj => by omega⟩
  case round =>
    obtain ⟨i, hil, rfl, hlow, hno⟩ := hrel
    have HNO := hide hno
    clear hno
    by_cases hlt : i < L.length
    · have j1 : (i : Int) < ((L.length : Nat) : Int) := by omega
      have j0 : (0 : Int) ≤ (i : Int) := by omega
      obtain ⟨bL, za, zc, rfl, hbL, ez, g0, g1, g2, go⟩ := ((unhide HSR).later hlow).at i hlt
      have HNX : Hid ((decide ((L[i]'hlt).1.check = 0) && !cf (L[i]'hlt).1) = false → ∀ j (h : j < L.length), j < i + 1 → (decide ((L[j]'h).1.check = 0) && !cf (L[j]'h).1) = false) := fun hc j h hj => by
        by_cases e : j = i
        · subst e; exact hc
        · exact unhide HNO j h (by omega)
      have HYES : Hid ((decide ((L[i]'hlt).1.check = 0) && !cf (L[i]'hlt).1) = true → CV = true) := fun hc => by
        rw [unhide HRES, any_fst]
        exact List.any_eq_true.2 ⟨_, List.getElem_mem hlt, hc⟩
      have hfit := (unhide HFT2).1 _ (List.mem_map.mpr ⟨_, List.getElem_mem hlt, rfl⟩)
      have hfew := (unhide HFT2).2 _ (List.mem_map.mpr ⟨_, List.getElem_mem hlt, rfl⟩)
      clear ez
      generalize (L[i]'hlt).1 = z at *
      obtain ⟨W6, hW6⟩ : ∃ W6, wr.alloc (.cells #[.int .i64 z.kind, .int .i64 z.n, .slice za z.rows.length zc] 38) = W6 := ⟨_, rfl⟩
      have hb6 : Below wr.heap.size wr W6 := by rw [← hW6]; exact under_box _
      have hz6 : W6.heap[wr.heap.size]? = some (.cells #[.int .i64 z.kind, .int .i64 z.n, .slice za z.rows.length zc] 38 (0, 0)) := by rw [← hW6]; exact heap_alloc_new wr _
      have HGO := hide (fun (wz : World) (hb : Below wr.heap.size wr wz) => ownsRow_below go hb)
      have hl6 := hlow.trans (hb6.mono hlow.size)
      have HL6 := hide hl6
      have HZ6 := hide hz6
      have HB6 := hide hb6
      have HGD := hide (good_any (w := W6) (v := .agg #[.int .i64 z.kind, .int .i64 z.n, .slice za z.rows.length zc]) (s := z) ⟨_, rfl, Row2.of_own (unhide HGO _ hb6)⟩)
      have HFIT := hide hfit
      have hne : wr.heap.size ≠ bL := by omega
      have HLO := hide hlow
      clear hlow hb6 hl6 go hfit
      go_upto_region 4 with fail
      try rw [hW6]
      clear hW6 g0 g1 g2
      obtain ⟨k0, k1, k2, _⟩ := cell3 hz6
      clear hz6
      go_wp2_with fail
      refine (unhide HGD).mono ?_
      rintro e w7 ⟨rfl, hb7⟩
      have HB7 := hide ((unhide HB6).trans (hb7.mono (unhide HB6).size))
      have HL7 := hide ((unhide HL6).trans (hb7.mono (unhide HL6).size))
      obtain ⟨q0, q1, q2, _⟩ := cell3 ((hb7.block _ (block_lt (unhide HZ6))).trans (unhide HZ6))
      clear hb7 k0 k1 k2
      have hbw := (unhide HB5).trans ((unhide HL7).mono (unhide HB5).size)
      obtain ⟨x0, x1, x2, x3, _⟩ := cell4 ((hbw.block _ (block_lt (unhide HF).1)).trans (unhide HF).1)
      obtain ⟨y0, y1, y2, _⟩ := cell3 ((hbw.block _ (block_lt (unhide HF).2.1)).trans (unhide HF).2.1)
      obtain ⟨z0, z1, z2, z3, _⟩ := cell4 ((hbw.block _ (block_lt (unhide HF).2.2.1)).trans (unhide HF).2.2.1)
      obtain ⟨u0, u1, u2, _⟩ := cell3 ((hbw.block _ (block_lt (unhide HF).2.2.2.1)).trans (unhide HF).2.2.2.1)
      clear hbw
      by_cases hck : z.check = 0
      · simp only [decide_eq_true hck]
        go_wp2_with fail
        refine (unhide HCM _ z za zc (unhide HGO _ (unhide HB7)) (by omega) (unhide HFIT)).mono ?_
        rintro e w8 ⟨rfl, hb8⟩
        have HL8 := hide ((unhide HL7).trans (hb8.mono (unhide HL7).size))
        clear hb8 x0 x1 x2 x3 y0 y1 y2 z0 z1 z2 z3 u0 u1 u2 q0 q1 q2
        obtain ⟨cv, hcv⟩ : ∃ cv, cf z = cv := ⟨_, rfl⟩
        have HNX2 := hide (fun (h : cv = true) => unhide HNX (by rw [hcv, h]; simp))
        have HYES2 := hide (fun (h : cv = false) => unhide HYES (by rw [hcv, h, hck]; rfl))
        simp only [hcv]
        clear hcv HNX HYES
        cases cv
        · go_wp2_with fail
          go_ret
          exact ⟨by first | rfl | (rw [unhide HYES2 (by trivial)]; rfl) | simp [unhide HYES2 (by trivial)], (unhide HF).2.2.2.2.trans (((unhide HB5).trans ((unhide HL8).mono (unhide HB5).size)).mono (unhide HF).2.2.2.2.size)⟩
        · go_wp2_with fail
          go_roundw
          case rel => exact ⟨i + 1, by omega, by go_num, unhide HL8, unhide HNX2 (by trivial)⟩
          case measure => simp [intOf]; omega
      · simp only [decide_eq_false hck]
        have HNX2 := hide (unhide HNX (by rw [decide_eq_false hck]; rfl))
        clear x0 x1 x2 x3 y0 y1 y2 z0 z1 z2 z3 u0 u1 u2 q0 q1 q2
        go_wp2_with fail
        go_roundw
        case rel => exact ⟨i + 1, by omega, by go_num, unhide HL7, unhide HNX2⟩
        case measure => simp [intOf]; omega
    · have j1 : ¬ (i : Int) < ((L.length : Nat) : Int) := by omega
      have HLE := hide hlow
      have hcv : CV = false := by
        rw [unhide HRES, any_fst]
        exact any_none _ _ fun j hj => unhide HNO j hj (by omega)
      clear hlow
      go_wp2_with fail
      go_ret
      exact ⟨by first | rfl | (rw [hcv]; rfl) | simp [hcv], (unhide HF).2.2.2.2.trans (((unhide HB5).trans ((unhide HLE).mono (unhide HB5).size)).mono (unhide HF).2.2.2.2.size)⟩
set_option maxHeartbeats 51200000 in
theorem rposs_any {w : World} (p : Stp) (hm : p.1.may) (hlen : p.2.text.length ≤ 24) (hbal : p.1.op = 7 → p.2.n ≤ 1125899906842624) (hi : I64 p.2.n) :
    Calls Tryd.prog 20 #[mcV p.1, mrV p.2] w fun e w' => e = .returned (.bool (posM p)) ∧ Below w.heap.size w w' := by
  have HST := hide (fun wz : World => qstates_any (w := wz) p p ⟨MC.may_op hm, hm.2, hi⟩ ⟨MC.may_op hm, hm.2, hi⟩)
  have HEX := hide (fun L (hL : Sts (kd p) p p L) => pos_exact hL hm hlen hbal)
  have HCM := hide (fun (wz : World) (s : VS) (sa : Option Addr) (sc : Nat) (h : wz.ownsRow 0 77 2 (.slice sa s.rows.length sc) s.rows.length (R9 s.rows)) (hs : s.rows.length ≤ 900) => rlegal_any (c := p.1) (v := .agg #[.int .i64 s.kind, .int .i64 s.n, .slice sa s.rows.length sc]) (s := s) ⟨_, rfl, Row2.of_own h⟩ (by omega) (MC.may_op hm) p.2)
  clear hm hlen hbal hi
  obtain ⟨CV, hCV⟩ : ∃ CV, posM p = CV := ⟨_, rfl⟩
  rw [hCV] at HEX ⊢
  obtain ⟨cf, hcf⟩ : ∃ cf : VS → Bool, (fun s => legal s p.1 p.2) = cf := ⟨_, rfl⟩
  have hcf' : ∀ s, legal s p.1 p.2 = cf s := fun s => by rw [← hcf]
  simp only [hcf'] at HEX HCM
  obtain ⟨St0, hSt0⟩ : ∃ St0 : List VS → Prop, (fun L => Sts (kd p) p p L) = St0 := ⟨_, rfl⟩
  have hStx : ∀ L, Sts (kd p) p p L = St0 L := fun L => by rw [← hSt0]
  have HFT := hide (fun L (h : St0 L) => by rw [← hStx] at h; exact h.few)
  simp only [hStx] at HEX HST
  clear hCV hcf hcf' hSt0 hStx
  obtain ⟨⟨o1, a1, b1, n1⟩, ⟨c1, t1, m1⟩⟩ := p
  unfold mcV mrV at HST HCM ⊢
  dsimp only at *
  obtain ⟨W, hW⟩ : ∃ W, (w.alloc (.cells #[.int .i64 o1, .string (S a1), .string (S b1), .int .i64 n1] 29)).alloc (.cells #[.int .i64 c1, .string (S t1), .int .i64 m1] 30) = W := ⟨_, rfl⟩
  have HF : Hid (W.heap[w.heap.size]? = some (.cells #[.int .i64 o1, .string (S a1), .string (S b1), .int .i64 n1] 29 (0, 0)) ∧ W.heap[w.heap.size + 1]? = some (.cells #[.int .i64 c1, .string (S t1), .int .i64 m1] 30 (0, 0)) ∧ Below w.heap.size w W) := by
    show _ ∧ _
    rw [← hW]
    have g := heap_alloc_new (w.alloc (.cells #[.int .i64 o1, .string (S a1), .string (S b1), .int .i64 n1] 29)) (.cells #[.int .i64 c1, .string (S t1), .int .i64 m1] 30)
    simp only [World.size_alloc] at g
    exact ⟨by rw [Below.heap_alloc _ _ _ (by simp)]; exact heap_alloc_new w _, g, under_two w _ _⟩
  go_enter Tryd.func20, Tryd.ntmps20
  go_upto_region 1 with fail
  try rw [hW]
  clear hW
  obtain ⟨x0, x1, x2, x3, _⟩ := cell4 (unhide HF).1
  obtain ⟨y0, y1, y2, _⟩ := cell3 (unhide HF).2.1
  go_wp2_with fail
  refine (unhide HST _).mono ?_
  rintro e w5 ⟨oa, oc, L, rfl, hl, hsr, hst, hb5⟩
  have HSR := hide hsr
  have HFT2 := hide (unhide HFT _ hst)
  have HRES := hide (unhide HEX _ hst)
  have HB5 := hide hb5
  clear hsr hst hb5 HEX HST HFT x0 x1 x2 x3 y0 y1 y2
  go_wp2_with fail
  go_loopw [13, 6] (fun iv _ wr => ∃ i : Nat, i ≤ L.length ∧ iv = .int .i64 (i : Int) ∧ Below w5.heap.size w5 wr ∧ ∀ j (h : j < L.length), j < i → (decide ((L[j]'h).1.check = 0) && cf (L[j]'h).1) = false) (fun iv _ _ => L.length - (intOf iv).toNat)
  case atStart => exact ⟨0, Nat.zero_le _, rfl, Below.refl _ _, fun j h hj => by omega⟩
  case round =>
    obtain ⟨i, hil, rfl, hlow, hno⟩ := hrel
    have HNO := hide hno
    clear hno
    by_cases hlt : i < L.length
    · have j1 : (i : Int) < ((L.length : Nat) : Int) := by omega
      have j0 : (0 : Int) ≤ (i : Int) := by omega
      obtain ⟨bL, za, zc, rfl, hbL, ez, g0, g1, g2, go⟩ := ((unhide HSR).later hlow).at i hlt
      have HNX : Hid ((decide ((L[i]'hlt).1.check = 0) && cf (L[i]'hlt).1) = false → ∀ j (h : j < L.length), j < i + 1 → (decide ((L[j]'h).1.check = 0) && cf (L[j]'h).1) = false) := fun hc j h hj => by
        by_cases e : j = i
        · subst e; exact hc
        · exact unhide HNO j h (by omega)
      have HYES : Hid ((decide ((L[i]'hlt).1.check = 0) && cf (L[i]'hlt).1) = true → CV = true) := fun hc => by
        rw [unhide HRES, any_fst]
        exact List.any_eq_true.2 ⟨_, List.getElem_mem hlt, hc⟩
      have hfew := unhide HFT2 _ (List.mem_map.mpr ⟨_, List.getElem_mem hlt, rfl⟩)
      clear ez
      generalize (L[i]'hlt).1 = z at *
      obtain ⟨W6, hW6⟩ : ∃ W6, wr.alloc (.cells #[.int .i64 z.kind, .int .i64 z.n, .slice za z.rows.length zc] 38) = W6 := ⟨_, rfl⟩
      have hb6 : Below wr.heap.size wr W6 := by rw [← hW6]; exact under_box _
      have hz6 : W6.heap[wr.heap.size]? = some (.cells #[.int .i64 z.kind, .int .i64 z.n, .slice za z.rows.length zc] 38 (0, 0)) := by rw [← hW6]; exact heap_alloc_new wr _
      have HGO := hide (fun (wz : World) (hb : Below wr.heap.size wr wz) => ownsRow_below go hb)
      have hl6 := hlow.trans (hb6.mono hlow.size)
      have HL6 := hide hl6
      have HZ6 := hide hz6
      have HB6 := hide hb6
      have HGD := hide (good_any (w := W6) (v := .agg #[.int .i64 z.kind, .int .i64 z.n, .slice za z.rows.length zc]) (s := z) ⟨_, rfl, Row2.of_own (unhide HGO _ hb6)⟩)
      have hne : wr.heap.size ≠ bL := by omega
      have HLO := hide hlow
      clear hlow hb6 hl6 go
      go_upto_region 4 with fail
      try rw [hW6]
      clear hW6 g0 g1 g2
      obtain ⟨k0, k1, k2, _⟩ := cell3 hz6
      clear hz6
      go_wp2_with fail
      refine (unhide HGD).mono ?_
      rintro e w7 ⟨rfl, hb7⟩
      have HB7 := hide ((unhide HB6).trans (hb7.mono (unhide HB6).size))
      have HL7 := hide ((unhide HL6).trans (hb7.mono (unhide HL6).size))
      obtain ⟨q0, q1, q2, _⟩ := cell3 ((hb7.block _ (block_lt (unhide HZ6))).trans (unhide HZ6))
      clear hb7 k0 k1 k2
      have hbw := (unhide HB5).trans ((unhide HL7).mono (unhide HB5).size)
      obtain ⟨x0, x1, x2, x3, _⟩ := cell4 ((hbw.block _ (block_lt (unhide HF).1)).trans (unhide HF).1)
      obtain ⟨y0, y1, y2, _⟩ := cell3 ((hbw.block _ (block_lt (unhide HF).2.1)).trans (unhide HF).2.1)
      clear hbw
      by_cases hck : z.check = 0
      · simp only [decide_eq_true hck]
        go_wp2_with fail
        refine (unhide HCM _ z za zc (unhide HGO _ (unhide HB7)) (by omega)).mono ?_
        rintro e w8 ⟨rfl, hb8⟩
        have HL8 := hide ((unhide HL7).trans (hb8.mono (unhide HL7).size))
        clear hb8 x0 x1 x2 x3 y0 y1 y2 q0 q1 q2
        obtain ⟨cv, hcv⟩ : ∃ cv, cf z = cv := ⟨_, rfl⟩
        have HNX2 := hide (fun (h : cv = false) => unhide HNX (by rw [hcv, h]; simp))
        have HYES2 := hide (fun (h : cv = true) => unhide HYES (by rw [hcv, h, hck]; rfl))
        simp only [hcv]
        clear hcv HNX HYES
        cases cv
        · go_wp2_with fail
          go_roundw
          case rel => exact ⟨i + 1, by omega, by go_num, unhide HL8, unhide HNX2 (by trivial)⟩
          case measure => simp [intOf]; omega
        · go_wp2_with fail
          go_ret
          exact ⟨by first | rfl | (rw [unhide HYES2 (by trivial)]; rfl) | simp [unhide HYES2 (by trivial)], (unhide HF).2.2.trans (((unhide HB5).trans ((unhide HL8).mono (unhide HB5).size)).mono (unhide HF).2.2.size)⟩
      · simp only [decide_eq_false hck]
        have HNX2 := hide (unhide HNX (by rw [decide_eq_false hck]; rfl))
        clear x0 x1 x2 x3 y0 y1 y2 q0 q1 q2
        go_wp2_with fail
        go_roundw
        case rel => exact ⟨i + 1, by omega, by go_num, unhide HL7, unhide HNX2⟩
        case measure => simp [intOf]; omega
    · have j1 : ¬ (i : Int) < ((L.length : Nat) : Int) := by omega
      have HLE := hide hlow
      have hcv : CV = false := by
        rw [unhide HRES, any_fst]
        exact any_none _ _ fun j hj => unhide HNO j hj (by omega)
      clear hlow
      go_wp2_with fail
      go_ret
      exact ⟨by first | rfl | (rw [hcv]; rfl) | simp [hcv], (unhide HF).2.2.trans (((unhide HB5).trans ((unhide HLE).mono (unhide HB5).size)).mono (unhide HF).2.2.size)⟩

end Go.Proofs.YteaiidcconggcaaDoor
