/- The contract of a device's Read. -/
import Derived.Test.YtajcaglbbdbibaaDoorDCalls
import Derived.Test.YtajcaglbbdbibaaDoorDRange
namespace Go.Proofs.YtajcaglbbdbibaaDoor
open Go.RowKit Go.Shelf
set_option linter.unusedVariables false
set_option maxRecDepth 100000
attribute [local go_sem] Oper.semAt_some

def wenc (x : Nat × List UInt8) : Array Value := #[.agg #[.int .i64 (x.1 : Int), .string (S x.2)]]

set_option maxHeartbeats 1600000 in
theorem fromLast_in (F : Fence) (n : Nat) (hF : F.fn 48) (hro : F.round = none) (hn : 1 ≤ n) {base : Nat} {w : World} {b : Nat} {sv lv : Value} {d : Dev} (h : DevIs base w b sv lv d) (hlen : d.W.length ≤ 1099511627776)
    (l : Nat) (J Jx : List (Nat × List UInt8) → World → Prop) (W : World) (hJb : ∀ pre W1, J pre W1 → Below w.heap.size w W1)
    (hY : ∀ pre x W1, J pre W1 → YieldAt F (n - 1) Tryd.prog l (wenc x) W1 fun e W' => (e = .returned (.bool true) ∧ J (pre ++ [x]) W') ∨ (e = .returned (.bool false) ∧ Jx (pre ++ [x]) W'))
    (h0 : J [] W) :
    CallsIn F n Tryd.prog 48 #[.pointer (some ⟨b, 0, none⟩), .func (.yield l) #[] #[]] W fun e W' => (∃ v, e = .returned v) ∧ (J d.W.reverse W' ∨ ∃ pre x rest, d.W.reverse = pre ++ x :: rest ∧ Jx (pre ++ [x]) W') := by
  obtain ⟨ao, c, rfl, hao⟩ := ownsRow_slice h.loo
  obtain ⟨m, hm⟩ : ∃ m, d.W.length = m := ⟨_, rfl⟩
  have HH := hide h
  have hc1 := (h.later (hJb _ _ h0)).1.c1
  rw [hm] at hc1 hao hlen HH
  have HM := hide hm
  have HJB := hide hJb
  have HY := hide hY
  have H0 := hide h0
  clear h hm hJb hY h0
  refine callsIn_of_wp Tryd.func48 rfl hF ?_ hro
  simp only [Tryd.ntmps48, List.size_toArray, List.length_cons, List.length_nil, Nat.reduceAdd, Nat.reduceSub, Array.replicate_succ, Array.replicate_zero, List.push_toArray, List.append_toArray, List.nil_append, List.cons_append]
  have hw : IntKind.i64.wrap ((m : Int) - 1) = (m : Int) - 1 := by rw [IntKind.wrap_i64]; omega
  gi_wp2
  gi_loopw [4] (fun i wr => ∃ j : Nat, j ≤ m ∧ i = .int .i64 ((m : Int) - 1 - (j : Int)) ∧ J (d.W.reverse.take j) wr) (fun i _ => (intOf i + 1).toNat)
  case atStart =>
    exact ⟨0, Nat.zero_le _, by simp, unhide H0⟩
  case round =>
    obtain ⟨j, hj, rfl, hJ⟩ := hrel
    by_cases hlt : j < m
    · obtain ⟨k, hk⟩ : ∃ k : Nat, (m : Int) - 1 - (j : Int) = (k : Int) := ⟨m - 1 - j, by omega⟩
      rw [hk]
      have hkm : k < m := by omega
      have hkW : k < d.W.length := by have := unhide HM; omega
      have hjr : j < d.W.reverse.length := by have := unhide HM; simp; omega
      have hx : d.W.reverse[j]'hjr = d.W[k]'hkW := by
        rw [List.getElem_reverse]
        congr 1
        have := unhide HM
        omega
      obtain ⟨gl, rfl⟩ := hao (by omega)
      have hd := ((unhide HH).later (unhide HJB _ _ hJ)).1
      have hc1r := hd.c1
      have hg := wrs_get d.W k hkW
      have hx0 := ownsRow_cell hd.loo (g := gl) (c := c) (by show Value.slice _ m c = Value.slice _ d.W.length c; rw [unhide HM]) _ _ hg.1
      have hx1 := ownsRow_cell hd.loo (g := gl) (c := c) (by show Value.slice _ m c = Value.slice _ d.W.length c; rw [unhide HM]) _ _ hg.2
      obtain ⟨fn, tmps, assign, body, hy, hR⟩ := unhide HY _ (d.W[k]'hkW) wr hJ
      have HTK : Hid (d.W.reverse.take (j + 1) = d.W.reverse.take j ++ [d.W[k]'hkW]) := by
        rw [← hx]; exact List.take_succ_eq_append_getElem hjr
      have HSPLIT : Hid (d.W.reverse = d.W.reverse.take j ++ d.W[k]'hkW :: d.W.reverse.drop (j + 1)) := by
        rw [← hx, ← List.drop_eq_getElem_cons hjr, List.take_append_drop]
        exact rfl
      have HR := hide hR
      clear hR hg hx hd
      generalize d.W[k]'hkW = x at *
      obtain ⟨x, s⟩ := x
      dsimp only [wenc] at hy hx0 hx1
      have hi1 : (0 : Int) ≤ (k : Int) := by omega
      have hi2 : (k : Int) < (m : Int) := by omega
      have HK := hide hk
      have hw2 : IntKind.i64.wrap ((k : Int) - 1) = (k : Int) - 1 := by rw [IntKind.wrap_i64]; omega
      clear hc1 hk
      gi_wp2
      refine (unhide HR).mono ?_
      rintro e W3 (⟨rfl, hJ3⟩ | ⟨rfl, hJx3⟩)
      · clear hc1r hx0 hx1
        gi_wp2
        go_roundw
        case rel =>
          refine ⟨j + 1, by omega, ?_, ?_⟩
          · have := unhide HK
            congr 1
            omega
          · rw [unhide HTK]; exact hJ3
        case measure => simp [intOf]
      · clear hc1r hx0 hx1
        gi_wp2
        refine bodyPost_ret (results_none rfl _ _ _) rfl ?_
        exact ⟨⟨_, rfl⟩, .inr ⟨_, _, _, unhide HSPLIT, hJx3⟩⟩
    · have : j = m := by omega
      subst this
      have hneg : (j : Int) - 1 - (j : Int) = -1 := by omega
      rw [hneg]
      gi_wp2
      go_end0
      refine ⟨⟨_, rfl⟩, .inl ?_⟩
      rw [List.take_of_length_le (by have := unhide HM; simp; omega)] at hJ
      exact hJ

theorem cur_none (d : Dev) (k : Nat) (h : ∀ y ∈ d.W.reverse, y.1 ≠ k) : d.cur k = d.L.getD k [] := by
  unfold Dev.cur
  rw [List.find?_eq_none.2 (fun y hy => by simpa using h y hy)]
  rfl
theorem cur_some (d : Dev) (k : Nat) (pre rest : List (Nat × List UInt8)) (x : Nat × List UInt8) (h : d.W.reverse = pre ++ x :: rest) (hp : ∀ y ∈ pre, y.1 ≠ k) (hx : x.1 = k) : d.cur k = x.2 := by
  unfold Dev.cur
  rw [h, List.find?_append, List.find?_eq_none.2 (fun y hy => by simpa using hp y hy), List.find?_cons_of_pos (by simpa using hx)]
  rfl
theorem below_put {B : Nat} {a w : World} (h : Below B a w) (l : Nat) (o : Obj) (hl : B ≤ l) (hB : B ≤ w.heap.size) : Below B a (w.putObj l o) := h.grown (grownBy_putObj' w l o) hB (fun k e => by cases e; exact hl)

set_option maxHeartbeats 1600000 in
theorem dread_any {base : Nat} {w : World} {b : Nat} {d : Dev} (h : DevAt base w b d) (i : Int) (hlen : d.W.length ≤ 1099511627776) :
    Calls Tryd.prog 37 #[.pointer (some ⟨b, 0, none⟩), .int .i64 i] w fun e w' => e = .returned (.tuple #[.string (S (d.read i)), .int .i64 (d.readE i)]) ∧ Below w.heap.size w w' := by
  refine (callsIn_wide (n := 3)).1 ?_
  have HHAS := hide (fun w' (hb : Below w.heap.size w w') => has_any (h.later hb).1 i)
  have HH := hide h
  clear h
  refine callsIn_of_wp_marks Tryd.func37 rfl trivial ?_ rfl
  simp only [Tryd.ntmps37, List.size_toArray, List.length_cons, List.length_nil, Nat.reduceAdd, Nat.reduceSub, Array.replicate_succ, Array.replicate_zero, List.push_toArray, List.append_toArray, List.nil_append, List.cons_append]
  by_cases hno : d.no i
  · rw [show d.read i = [] by unfold Dev.read; rw [if_pos hno], show d.readE i = 4 by unfold Dev.readE; rw [if_pos hno]]
    rw [decide_eq_true hno] at HHAS
    gi_wp2_with (refine ⟨trivial, ?_⟩; gi_at_call 47; refine (callsIn_wide.2 (unhide HHAS _ ((((Below.refl _ w).alloc (Nat.le_refl _) _).alloc (by simp) _).alloc (by simp; omega) _))).mono ?_; rintro e w1 ⟨rfl, rfl⟩)
    refine ⟨.tuple #[.string ⟨#[]⟩, .int .i64 4], ?_, rfl, (((Below.refl _ w).alloc (Nat.le_refl _) _).alloc (by simp) _).alloc (by simp; omega) _⟩
    simp [results, Tryd.results37, go_sem]
  · rw [decide_eq_false hno] at HHAS
    obtain ⟨sv, lv, h⟩ := unhide HH
    obtain ⟨W0, hW0⟩ : ∃ W0, (((w.alloc (.cells #[.int .i64 i] 3)).alloc (.cells #[.string ⟨#[]⟩] 9)).alloc (.cells #[.int .i64 0] 38)) = W0 := ⟨_, rfl⟩
    have hb0 : Below w.heap.size w W0 := by rw [← hW0]; exact (((Below.refl _ w).alloc (Nat.le_refl _) _).alloc (by simp) _).alloc (by simp; omega) _
    have hd3 := (h.later hb0).1
    have hc2 := hd3.c2
    have hsz0 : W0.heap.size = w.heap.size + 1 + 1 + 1 := by rw [← hW0]; simp
    have hq0 : W0.heap[w.heap.size]? = some (.cells #[.int .i64 i] 3 (0, 0)) := by
      rw [← hW0, Below.heap_alloc _ _ _ (by simp; omega), Below.heap_alloc _ _ _ (by simp)]
      exact heap_alloc_new w _
    have hq1 : W0.heap[w.heap.size + 1]? = some (.cells #[.string ⟨#[]⟩] 9 (0, 0)) := by
      rw [← hW0, Below.heap_alloc _ _ _ (by simp)]
      have := heap_alloc_new (w.alloc (.cells #[.int .i64 i] 3)) (.cells #[.string ⟨#[]⟩] 9)
      rwa [World.size_alloc] at this
    have hq2 : W0.heap[w.heap.size + 1 + 1]? = some (.cells #[.int .i64 0] 38 (0, 0)) := by
      rw [← hW0]
      have := heap_alloc_new ((w.alloc (.cells #[.int .i64 i] 3)).alloc (.cells #[.string ⟨#[]⟩] 9)) (.cells #[.int .i64 0] 38)
      rwa [World.size_alloc, World.size_alloc] at this
    have HD3 := hide hd3
    clear hd3 HH
    rw [← hW0] at hc2
    have HW0 := hide hW0
    clear hW0
    by_cases hdn : d.down = true
    · rw [show d.read i = [] by unfold Dev.read; rw [if_neg hno, if_pos hdn], show d.readE i = 16 by unfold Dev.readE; rw [if_neg hno, if_pos hdn]]
      clear hq0 hq1 hq2 hb0 hsz0
      gi_wp2_with (refine ⟨trivial, ?_⟩; gi_at_call 47; refine (callsIn_wide.2 (unhide HHAS _ ((((Below.refl _ w).alloc (Nat.le_refl _) _).alloc (by simp) _).alloc (by simp; omega) _))).mono ?_; rintro e w1 ⟨rfl, rfl⟩)
      refine ⟨.tuple #[.string ⟨#[]⟩, .int .i64 16], ?_, rfl, (((Below.refl _ w).alloc (Nat.le_refl _) _).alloc (by simp) _).alloc (by simp; omega) _⟩
      simp [results, Tryd.results37, go_sem]
    · have hdf : d.down = false := by simpa using hdn
      rw [hdf] at hc2
      obtain ⟨k, rfl⟩ : ∃ k : Nat, i = (k : Int) := ⟨i.toNat, by unfold Dev.no at hno; omega⟩
      rw [show d.read (k : Int) = d.cur k by unfold Dev.read; rw [if_neg hno, if_neg hdn, Int.toNat_natCast], show d.readE (k : Int) = 0 by unfold Dev.readE; rw [if_neg hno, if_neg hdn]]
      obtain ⟨rs, hrs⟩ : ∃ rs, d.cur k = rs := ⟨_, rfl⟩
      rw [hrs]
      have HRS := hide hrs
      clear hrs
      have HQ0 := hide hq0
      have HQ1 := hide hq1
      have HQ2 := hide hq2
      have HB0 := hide hb0
      have HSZ0 := hide hsz0
      clear hq0 hq1 hq2 hb0 hsz0
      gi_wp2_with (refine ⟨trivial, ?_⟩; gi_at_call 47; refine (callsIn_wide.2 (unhide HHAS _ ((((Below.refl _ w).alloc (Nat.le_refl _) _).alloc (by simp) _).alloc (by simp; omega) _))).mono ?_; rintro e w1 ⟨rfl, rfl⟩)
      rw [unhide HW0]
      clear hc2 HW0 HHAS
      refine range_first rfl (by omega) (gf := 48) (recv := .pointer (some ⟨b, 0, none⟩)) rfl trivial (enters_of Tryd.func48 (by kernel_rfl) rfl) (encs := wenc) (fun _ => rfl) d.W.reverse
        (fun l J Jx W hJb hY h0 => fromLast_in Fence.wide 2 trivial rfl (by omega) (unhide HD3) hlen l J Jx W hJb hY h0)
        (fun pre W => (∀ y ∈ pre, y.1 ≠ k) ∧ Below W0.heap.size W0 W)
        (fun pre W => (∃ pre' x, pre = pre' ++ [x] ∧ x.1 = k ∧ (∀ y ∈ pre', y.1 ≠ k) ∧ W.cell? ⟨w.heap.size + 1, 0, none⟩ = some (.string (S x.2)) ∧ W.cell? ⟨w.heap.size + 1 + 1, 0, none⟩ = some (.int .i64 0)) ∧ Below w.heap.size w W)
        (OwnFrom.and (ownFrom_pure _ _) (ownFrom_below (Nat.le_refl _) (Nat.le_refl _)))
        ?ownx (fun pre W hi => hi.2) ⟨by simp, Below.refl _ _⟩ ?round ?done ?stop
      case ownx =>
        rintro s A B row ⟨⟨pre', x, h1, h2, h3, h4, h5⟩, hb⟩ hg hr
        exact ⟨⟨pre', x, h1, h2, h3, cell_kept h4 hg (fun r e => (hr r e).2), cell_kept h5 hg (fun r e => (hr r e).2)⟩, hb.grown hg hb.size (fun k e => by have := (hr k e).1; have := unhide HSZ0; omega)⟩
      case round =>
        rintro l pre ⟨x, s⟩ W hl1 hl2 hl3 ⟨hp, hB⟩
        have hsz0 := unhide HSZ0
        have hszW := hB.size
        have HB := hide hB
        have HP := hide hp
        have hN0 : W.heap[w.heap.size]? = _ := (hB.block w.heap.size (by omega)).trans (unhide HQ0)
        have hN1 : W.heap[w.heap.size + 1]? = _ := (hB.block (w.heap.size + 1) (by omega)).trans (unhide HQ1)
        have hN2 : W.heap[w.heap.size + 1 + 1]? = _ := (hB.block (w.heap.size + 1 + 1) (by omega)).trans (unhide HQ2)
        dsimp only [wenc]
        clear h hB hp hl3 HD3
        have HN0 := hide hN0
        have HN1 := hide hN1
        have HN2 := hide hN2
        clear hN0 hN1 hN2
        gi_wp2
        refine ⟨(KeepsOthers.alloc _ _).from _, fun o' => ?_⟩
        obtain ⟨W2, hW2⟩ : ∃ W2, (W.alloc (.cells #[.int .i64 (x : Int), .string (S s)] 84)).putObj l o' = W2 := ⟨_, rfl⟩
        rw [hW2]
        have hq : ∀ j, j ≠ l → j < W.heap.size → W2.heap[j]? = W.heap[j]? := fun j hj hlt => by
          rw [← hW2, World.putObj_heap_other hj, Below.heap_alloc _ _ _ hlt]
        have hbx : W2.heap[W.heap.size]? = some (.cells #[.int .i64 (x : Int), .string (S s)] 84 (0, 0)) := by
          rw [← hW2, World.putObj_heap_other (by omega)]; exact heap_alloc_new W _
        have hM0 : W2.heap[w.heap.size]? = _ := (hq _ (by omega) (by omega)).trans (unhide HN0)
        have hM1 : W2.heap[w.heap.size + 1]? = _ := (hq _ (by omega) (by omega)).trans (unhide HN1)
        have hM2 : W2.heap[w.heap.size + 1 + 1]? = _ := (hq _ (by omega) (by omega)).trans (unhide HN2)
        have cb0 : W2.cell? ⟨W.heap.size, 0, none⟩ = some (.int .i64 (x : Int)) := by rw [block_cell hbx]; rfl
        have cb1 : W2.cell? ⟨W.heap.size, 1, none⟩ = some (.string (S s)) := by rw [block_cell hbx]; rfl
        have cm0 : W2.cell? ⟨w.heap.size, 0, none⟩ = some (.int .i64 (k : Int)) := by rw [block_cell hM0]; rfl
        have cm1 : W2.cell? ⟨w.heap.size + 1, 0, none⟩ = some (.string ⟨#[]⟩) := by rw [block_cell hM1]; rfl
        have cm2 : W2.cell? ⟨w.heap.size + 1 + 1, 0, none⟩ = some (.int .i64 0) := by rw [block_cell hM2]; rfl
        have fm1 : W2.frozen? ⟨w.heap.size + 1, 0, none⟩ = false := block_frozen hM1 0
        have fm2 : W2.frozen? ⟨w.heap.size + 1 + 1, 0, none⟩ = false := block_frozen hM2 0
        have HB2 : Hid (Below W0.heap.size W0 W2) := by
          rw [← hW2]; exact below_put ((unhide HB).alloc hszW _) l o' (by omega) (by simp; omega)
        clear hW2 hq hbx hM0 hM1 hM2
        by_cases hxk : x = k
        · subst hxk
          have hbeq : ((x : Int) == (x : Int)) = true := by simp
          gi_wp2
          have hset : (W2.setCell ⟨w.heap.size + 1, 0, none⟩ (.string (S s))).cell? ⟨w.heap.size + 1 + 1, 0, none⟩ = some (.int .i64 0) := by
            rw [World.cell?_setCell_other _ _ _ _ (by simp)]; exact cm2
          refine ⟨((KeepsOthers.setCell _ _ _).trans (KeepsOthers.setCell _ _ _)).from _, ⟨pre, (x, s), rfl, rfl, unhide HP, ?_, ?_⟩, ?_⟩
          · rw [World.cell?_setCell_other _ _ _ _ (by simp)]
            exact World.cell?_setCell_same _ _ _ cm1
          · exact World.cell?_setCell_same _ _ _ hset
          · exact (((unhide HB0).trans ((unhide HB2).mono (by omega))).setCell (p := ⟨w.heap.size + 1, 0, none⟩) (by simp) _).setCell (p := ⟨w.heap.size + 1 + 1, 0, none⟩) (by simp; omega) _
        · have hbeq : ((x : Int) == (k : Int)) = false := by simp; omega
          gi_wp2
          refine ⟨KeepsFrom.refl _ _, fun y hy => ?_, unhide HB2⟩
          rcases List.mem_append.1 hy with hy | hy
          · exact unhide HP y hy
          · simp at hy; subst hy; exact hxk
      case done =>
        rintro D W hD ⟨hne, hB⟩ hK
        have hsz0 := unhide HSZ0
        have hszW := hB.size
        have hcur := cur_none d k hne
        have hdW := ((unhide HD3).later hB).1
        have hkl : k < d.L.length := by unfold Dev.no at hno; omega
        obtain ⟨a2, c2, rfl, has⟩ := ownsRow_slice hdW.sec
        obtain ⟨g, rfl⟩ := has (by omega)
        have hc0 := hdW.c0
        have hsec : W.cell? ⟨g, k, none⟩ = some (.string (S (d.L[k]'hkl))) := ownsRow_cell hdW.sec rfl k _ (by simp [secs, List.getElem?_eq_getElem hkl])
        have hcur2 : d.cur k = d.L[k]'hkl := by rw [hcur]; simp [List.getD_eq_getElem?_getD, List.getElem?_eq_getElem hkl]
        have hN0 : W.heap[w.heap.size]? = _ := (hB.block w.heap.size (by omega)).trans (unhide HQ0)
        have hN1 : W.heap[w.heap.size + 1]? = _ := (hB.block (w.heap.size + 1) (by omega)).trans (unhide HQ1)
        have hN2 : W.heap[w.heap.size + 1 + 1]? = _ := (hB.block (w.heap.size + 1 + 1) (by omega)).trans (unhide HQ2)
        have cm0 : W.cell? ⟨w.heap.size, 0, none⟩ = some (.int .i64 (k : Int)) := by rw [block_cell hN0]; rfl
        have cm1 : W.cell? ⟨w.heap.size + 1, 0, none⟩ = some (.string ⟨#[]⟩) := by rw [block_cell hN1]; rfl
        have cm2 : W.cell? ⟨w.heap.size + 1 + 1, 0, none⟩ = some (.int .i64 0) := by rw [block_cell hN2]; rfl
        have fm1 : W.frozen? ⟨w.heap.size + 1, 0, none⟩ = false := block_frozen hN1 0
        have fm2 : W.frozen? ⟨w.heap.size + 1 + 1, 0, none⟩ = false := block_frozen hN2 0
        rw [unhide HRS] at hcur2
        rw [← hcur2] at hsec
        have hi1 : (0 : Int) ≤ (k : Int) := by omega
        have hi2 : (k : Int) < (d.L.length : Int) := by omega
        have HB := hide hB
        have HK := hide hK
        clear hcur hcur2 hdW has hN0 hN1 hN2 hB hK hne h hkl
        gi_wp2
        gi_region
        obtain ⟨W4, hW4⟩ : ∃ W4, ((W.setCell ⟨w.heap.size + 1, 0, none⟩ (.string (S rs))).setCell ⟨w.heap.size + 1 + 1, 0, none⟩ (.int .i64 0)).drew = W4 := ⟨_, rfl⟩
        rw [hW4]
        have hset : (W.setCell ⟨w.heap.size + 1, 0, none⟩ (.string (S rs))).cell? ⟨w.heap.size + 1 + 1, 0, none⟩ = some (.int .i64 0) := by
          rw [World.cell?_setCell_other _ _ _ _ (by simp)]; exact cm2
        have hc4 : W4.cell? ⟨w.heap.size + 1, 0, none⟩ = some (.string (S rs)) := by
          rw [← hW4]
          show ((W.setCell ⟨w.heap.size + 1, 0, none⟩ (.string (S rs))).setCell ⟨w.heap.size + 1 + 1, 0, none⟩ (.int .i64 0)).cell? ⟨w.heap.size + 1, 0, none⟩ = _
          rw [World.cell?_setCell_other _ _ _ _ (by simp)]
          exact World.cell?_setCell_same _ _ _ cm1
        have hc5 : W4.cell? ⟨w.heap.size + 1 + 1, 0, none⟩ = some (.int .i64 0) := by
          rw [← hW4]
          exact World.cell?_setCell_same _ _ _ hset
        have hK4 : W4.heap[D]? = some (.deferred (some [])) := by
          rw [← hW4]
          exact ((KeepsOthers.setCell _ _ _).trans (KeepsOthers.setCell _ _ _)).same D _ (unhide HK) rfl
        have hb4 : Below w.heap.size w W4 := by
          rw [← hW4]
          exact ((((unhide HB0).trans ((unhide HB).mono (by omega))).setCell (p := ⟨w.heap.size + 1, 0, none⟩) (by simp) _).setCell (p := ⟨w.heap.size + 1 + 1, 0, none⟩) (by simp; omega) _).drew
        clear hW4 hset cm1 cm2 fm1 fm2 cm0 hc0 hsec
        have HC4 := hide hc4
        have HC5 := hide hc5
        clear hc4 hc5
        gi_wp2
        refine ⟨by simp, .inl ⟨_, _, rfl, run_takeDeferred hK4, ?_⟩⟩
        have hc6 := cell_kept (unhide HC4) (grownBy_putObj' _ D (.deferred none)) (fun r e => by cases e; exact ⟨_, hK4, rfl⟩)
        have hc7 := cell_kept (unhide HC5) (grownBy_putObj' _ D (.deferred none)) (fun r e => by cases e; exact ⟨_, hK4, rfl⟩)
        refine ⟨.tuple #[.string (S rs), .int .i64 0], ?_, rfl, below_put hb4 D _ (by omega) hb4.size⟩
        simp [results, Tryd.results37, go_sem, hc6, hc7]
      case stop =>
        rintro D pre x rest W hD hx ⟨⟨pre', y, he, hy, hp, hc4, hc5⟩, hB⟩ hK
        obtain ⟨rfl, e2⟩ := List.append_inj' he rfl
        obtain rfl : x = y := by simpa using e2
        have hrs := cur_some d k pre rest x hx hp hy
        rw [unhide HRS] at hrs
        subst hrs
        gi_wp2
        refine ⟨by simp, .inl ⟨_, _, rfl, run_takeDeferred hK, ?_⟩⟩
        have hc6 := cell_kept hc4 (grownBy_putObj' _ D (.deferred none)) (fun r e => by cases e; exact ⟨_, hK, rfl⟩)
        have hc7 := cell_kept hc5 (grownBy_putObj' _ D (.deferred none)) (fun r e => by cases e; exact ⟨_, hK, rfl⟩)
        refine ⟨.tuple #[.string (S x.2), .int .i64 0], ?_, rfl, below_put hB D _ (by have := unhide HSZ0; omega) hB.size⟩
        simp [results, Tryd.results37, go_sem, hc6, hc7]
end Go.Proofs.YtajcaglbbdbibaaDoor
