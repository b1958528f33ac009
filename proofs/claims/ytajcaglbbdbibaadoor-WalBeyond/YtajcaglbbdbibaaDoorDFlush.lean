/- The contracts of a device's Flush, Arm, Spoil and Crash. -/
import Derived.Test.YtajcaglbbdbibaaDoorDWrite
import Derived.Deep.RegionHeld3
namespace Go.Proofs.YtajcaglbbdbibaaDoor
open Go.RowKit
set_option linter.unusedVariables false
set_option maxRecDepth 100000

theorem lay_take (l : List (List UInt8)) (ws : List (Nat × List UInt8)) (k : Nat) (h : k < ws.length) : lay l (ws.take (k + 1)) = (lay l (ws.take k)).set (ws[k]'h).1 (ws[k]'h).2 := by
  rw [List.take_succ_eq_append_getElem h]
  unfold lay
  rw [List.foldl_append]
  rfl
def Dev.setL (d : Dev) (l : List (List UInt8)) : Dev := { d with L := l }
theorem Dev.setL_L (d : Dev) (l : List (List UInt8)) : (d.setL l).L = l := rfl
theorem Dev.setL_self (d : Dev) : d.setL d.L = d := rfl

theorem box_two (w : World) (a : Addr) (v p q : Value) (t : TypeId) : ((w.setCell a v).alloc (.cells #[p, q] t)).cell? ⟨w.heap.size, 0, none⟩ = some p ∧ ((w.setCell a v).alloc (.cells #[p, q] t)).cell? ⟨w.heap.size, 1, none⟩ = some q := by
  have h := heap_alloc_new (w.setCell a v) (.cells #[p, q] t)
  rw [World.size_setCell] at h
  exact ⟨by rw [block_cell h]; rfl, by rw [block_cell h]; rfl⟩

theorem arm_any {base : Nat} {w : World} {b : Nat} {d : Dev} (h : DevAt base w b d) (n : Int) :
    Calls Tryd.prog 35 #[.pointer (some ⟨b, 0, none⟩), .int .i64 n] w fun e w' => e = .returned (.tuple #[]) ∧ DevAt base w' b (d.arm n) ∧ DStep b w w' := by
  obtain ⟨sv, lv, h⟩ := h
  have h3 := h.c3
  have h4 := h.c4
  have f3 := h.fz 3
  have f4 := h.fz 4
  have HH := hide h
  clear h
  go_enter Tryd.func35, Tryd.ntmps35
  go_wp2_with fail
  go_end0
  rw [← Int.ofNat_toNat]
  have := unhide HH
  exact ⟨rfl, ⟨sv, lv, (this.setArmed (decide (0 ≤ n))).setLeft n.toNat⟩, (this.stepSet 3 _ (by omega)).trans ((this.setArmed (decide (0 ≤ n))).stepSet 4 _ (by omega))⟩

set_option maxHeartbeats 1600000 in
theorem flush_any {base : Nat} {w : World} {b : Nat} {d : Dev} (h : DevAt base w b d) (hok : d.Ok) (hl : d.left < 9223372036854775808) (hc : d.calls < 4611686018427387904) (hn : d.W.length ≤ 1099511627776) (hm : d.L.length ≤ 1099511627776) :
    Calls Tryd.prog 29 #[.pointer (some ⟨b, 0, none⟩)] w fun e w' => e = .returned (.int .i64 d.flushE) ∧ DevAt base w' b d.flush ∧ DStep b w w' := by
  have HBEG := hide (begin_any h hl hc)
  have HH := hide h
  by_cases ho : d.out
  · rw [decide_eq_true ho] at HBEG
    have e1 : d.flushE = 16 := by unfold Dev.flushE; rw [if_pos ho]
    have e2 : d.flush = d.begin := by unfold Dev.flush; rw [if_pos ho]
    rw [e1, e2]
    clear e1 e2 h
    go_enter Tryd.func29, Tryd.ntmps29
    go_wp2_with fail
    refine (unhide HBEG).mono ?_
    rintro e w1 ⟨rfl, h1, h2⟩
    have H12 := hide (And.intro h1 h2)
    clear h1 h2
    go_wp2_with fail
    go_ret
    exact ⟨rfl, (unhide H12).1, (unhide H12).2⟩
  · rw [decide_eq_false ho] at HBEG
    have e1 : d.flushE = 0 := by unfold Dev.flushE; rw [if_neg ho]
    have hbW : d.begin.W = d.W := by unfold Dev.begin; rw [if_neg ho]
    have hbL : d.begin.L = d.L := by unfold Dev.begin; rw [if_neg ho]
    have e2 : d.flush = { d.begin.setL (lay d.begin.L d.begin.W) with W := [] } := by rw [hbW, hbL]; unfold Dev.flush; rw [if_neg ho]; rfl
    rw [e1, e2]
    rw [← hbW] at hn
    rw [← hbL] at hm
    have HOK : Hid d.begin.Ok := ⟨by rw [hbW, hbL]; exact hok.has, by rw [hbL]; exact hok.some⟩
    generalize d.begin = d0 at *
    clear e1 e2 h hok hbW hbL HH ho hl hc
    go_enter Tryd.func29, Tryd.ntmps29
    go_wp2_with fail
    refine (unhide HBEG).mono ?_
    rintro e wb ⟨rfl, ⟨sv, lv, h1⟩, h2⟩
    have hc1 := h1.c1
    have H2 := hide h2
    obtain ⟨ao, c, rfl, hao⟩ := ownsRow_slice h1.loo
    have H1 := hide h1
    clear h1 h2 HBEG
    obtain ⟨n, hnn⟩ : ∃ n, d0.W.length = n := ⟨_, rfl⟩
    rw [hnn] at hc1 H1 hao hn
    have HN := hide hnn
    clear hnn
    go_wp2_with fail
    go_loopw [13] (fun i wr => ∃ k : Nat, k ≤ n ∧ i = .int .i64 k ∧ DevIs base wr b sv (.slice ao n c) (d0.setL (lay d0.L (d0.W.take k))) ∧ DStep b wb wr) (fun i _ => n - (intOf i).toNat)
    case atStart =>
      exact ⟨0, Nat.zero_le _, rfl, unhide H1, DStep.refl _ _⟩
    case round =>
      obtain ⟨k, hk, rfl, hr, hbw⟩ := hrel
      clear H1 hc1
      have HR := hide hr
      by_cases hlt : k < n
      · have hkW : k < d0.W.length := by have := unhide HN; omega
        obtain ⟨gl, rfl⟩ := hao (by omega)
        obtain ⟨a2, c2, rfl, has⟩ := ownsRow_slice hr.sec
        have hLl : (d0.setL (lay d0.L (d0.W.take k))).L.length = d0.L.length := lay_length _ _
        have hLp := (unhide HOK).some
        obtain ⟨g, rfl⟩ := has (by rw [hLl]; omega)
        have hat : (d0.W[k]'hkW).1 < (d0.setL (lay d0.L (d0.W.take k))).L.length := by rw [hLl]; exact (unhide HOK).has (d0.W[k]'hkW) (List.getElem_mem hkW)
        have hg := wrs_get d0.W k hkW
        have hx0 := ownsRow_cell hr.loo (g := gl) (c := c) (by show Value.slice _ n c = Value.slice _ d0.W.length c; rw [unhide HN]) _ _ hg.1
        have hx1 := ownsRow_cell hr.loo (g := gl) (c := c) (by show Value.slice _ n c = Value.slice _ d0.W.length c; rw [unhide HN]) _ _ hg.2
        have HNEW : Hid (d0.setL (lay d0.L (d0.W.take (k + 1))) = { d0.setL (lay d0.L (d0.W.take k)) with L := (d0.setL (lay d0.L (d0.W.take k))).L.set (d0.W[k]'hkW).1 (d0.W[k]'hkW).2 }) := by
          rw [lay_take _ _ _ hkW]; exact rfl
        clear hg
        generalize d0.W[k]'hkW = x at *
        obtain ⟨x, s⟩ := x
        dsimp only at hx0 hx1 hat HNEW
        rw [hLl] at hat
        generalize hd1 : d0.setL (lay d0.L (d0.W.take k)) = d1 at *
        clear hd1
        have hc0 := hr.c0
        have hsec : wr.cell? ⟨g, x, none⟩ = some (.string (S (d1.L[x]'(by omega)))) := ownsRow_cell hr.sec rfl x _ (by simp [secs, List.getElem?_eq_getElem (show x < d1.L.length by omega)])
        have hfz : wr.frozen? ⟨g, x, none⟩ = false := by
          obtain ⟨cur, hh, _⟩ := ownsRow_blk hr.sec (k := g) rfl
          exact block_frozen hh x
        have hblt := hr.lt
        have hglt := cell_lt hsec
        have hbl : ∀ o, Below wr.heap.size wr (wr.alloc o) := fun o => (Below.refl _ wr).alloc (Nat.le_refl _) o
        have hc0A : ∀ o, (wr.alloc o).cell? ⟨b, 0, none⟩ = some (.slice (some ⟨g, 0, none⟩) d1.L.length c2) := fun o => ((hbl o).cell (p := ⟨b, 0, none⟩) hblt).trans hc0
        have hscA : ∀ o, (wr.alloc o).cell? ⟨g, x, none⟩ = some (.string (S (d1.L[x]'(by omega)))) := fun o => ((hbl o).cell (p := ⟨g, x, none⟩) hglt).trans hsec
        have hfzA : ∀ o, (wr.alloc o).frozen? ⟨g, x, none⟩ = false := fun o => ((hbl o).frozen (p := ⟨g, x, none⟩) hglt).trans hfz
        have hgb : g ≠ b := fun e => hr.nsec (by rw [e]; rfl)
        have hbg := Ne.symm hgb
        have hgN : g ≠ wr.heap.size := by omega
        have hNg := Ne.symm hgN
        have hi1 : (0 : Int) ≤ (x : Int) := by omega
        have hi2 : (x : Int) < (d1.L.length : Int) := by omega
        have hk1 : (0 : Int) ≤ (k : Int) := by omega
        have hk2 : (k : Int) < (n : Int) := by omega
        generalize d1.L[x]'(by omega) = old at *
        have HBW := hide hbw
        obtain ⟨hN0, hN1⟩ := box_two wr ⟨g, x, none⟩ (.string (S s)) (.int .i64 (x : Int)) (.string (S s)) 84
        clear has hr hbl hbw
        go_wp2_with fail
        go_region_held3 (fun w' => w'.cell? ⟨b, 0, none⟩ = some (.slice (some ⟨g, 0, none⟩) d1.L.length c2) ∧ w'.cell? ⟨wr.heap.size, 0, none⟩ = some (.int .i64 (x : Int)) ∧ w'.cell? ⟨wr.heap.size, 1, none⟩ = some (.string (S s))) (go_keep) (fail)
        all_goals
          clear hc0A hscA hfzA hc0 hsec hfz hx0 hx1 hN0 hN1
          go_wp2
          go_roundw
          case rel =>
            refine ⟨k + 1, by omega, by go_num, ?_, ?_⟩
            · rw [unhide HNEW]
              exact (((unhide HR).setSector rfl x s).1.later (((Below.refl _ _).alloc (Nat.le_refl _) _).drew)).1
            · exact ((unhide HBW).trans ((unhide HR).setSector rfl x s).2).trans (((unhide HR).setSector rfl x s).1.later (((Below.refl _ _).alloc (Nat.le_refl _) _).drew)).2
          case measure => simp [intOf]; omega
      · have : k = n := by omega
        subst this
        have hr1 := hr.c1
        have hf1 := hr.fz 1
        have e : d0.W.take k = d0.W := List.take_of_length_le (by have := unhide HN; omega)
        rw [e] at HR
        have HBW := hide hbw
        clear hr hbw e
        go_wp2
        go_ret
        exact ⟨rfl, ⟨_, _, (unhide HR).setNil.1⟩, ((unhide H2).trans (unhide HBW)).trans (unhide HR).setNil.2⟩
end Go.Proofs.YtajcaglbbdbibaaDoor
