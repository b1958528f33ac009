/- A log and rows that are none of its memory; the contracts of Force and of Append, fitting or not. -/
import Derived.Test.YtajcaglbbdbibaaDoorWAppend2
import Derived.Test.YtajcaglbbdbibaaDoorWLaw
namespace Go.Proofs.YtajcaglbbdbibaaDoor
open Go.RowKit
set_option linter.unusedVariables false
set_option maxRecDepth 100000

def Far (w : World) (b lb : Nat) (v : Value) : Prop := ∀ k, v.ownBlock = some k → DFor w b k ∧ k ≠ lb
section
variable {base base' : Nat} {w w' : World} {b lb : Nat} {d d' : Dev} {fr ln head next : Int} {ty : TypeId} {size n n' : Nat} {v v' : Value} {xs xs' : List Value}
theorem Far.nil : Far w b lb (.slice none 0 0) := fun k e => by cases e
theorem Far.step (h : Far w b lb v) (ho : w.ownsRow base ty size v n xs) (hs : LStep b lb w w') : Far w' b lb v ∧ w'.ownsRow base ty size v n xs := by
  refine ⟨fun k hk => ?_, ownsRow_same ho fun k hk => ?_⟩
  · obtain ⟨cur, hc, _⟩ := ownsRow_blk ho hk
    exact ⟨(hs.keep k (block_lt hc) (h k hk).2 (h k hk).1).2, (h k hk).2⟩
  · obtain ⟨cur, hc, _⟩ := ownsRow_blk ho hk
    exact (hs.keep k (block_lt hc) (h k hk).2 (h k hk).1).1
theorem LogAt.grown (h : LogAt base w b lb d fr ln head next) {r : Option Nat} (hg : w.grownBy w' r) (hr : ∀ k, r = some k → DFor w b k ∧ k ≠ lb) : LogAt base w' b lb d fr ln head next := by
  obtain ⟨⟨sv, lv, hd⟩, hlo, hlog, hfar⟩ := h
  have hb : w'.heap[b]? = w.heap[b]? := hg.block b hd.lt (fun e => (hr b e.symm).1.ne rfl)
  refine ⟨⟨sv, lv, hd.same hb (fun k hk => ?_) (fun k hk => ?_)⟩, hlo, (hg.block lb (block_lt hlog) (fun e => (hr lb e.symm).2 rfl)).trans hlog, hfar.same hb⟩
  · obtain ⟨cur, hc, _⟩ := ownsRow_blk hd.sec hk
    exact hg.block k (block_lt hc) (fun e => (hr k e.symm).1.sec sv hd.c0 hk)
  · obtain ⟨cur, hc, _⟩ := ownsRow_blk hd.loo hk
    exact hg.block k (block_lt hc) (fun e => (hr k e.symm).1.loo lv hd.c1 hk)
theorem Far.grown (h : Far w b lb v) (hl : LogAt base w b lb d fr ln head next) (hg : w.grownBy w' v.ownBlock) (hf : v'.ownBlock = v.ownBlock ∨ ∀ k, v'.ownBlock = some k → w.heap.size ≤ k) : Far w' b lb v' := by
  have hb : w'.heap[b]? = w.heap[b]? := hg.block b hl.dev.lt (fun e => (h b e.symm).1.ne rfl)
  intro k hk
  rcases hf with hf | hf
  · rw [hf] at hk
    exact ⟨(h k hk).1.same hb, (h k hk).2⟩
  · have := hf k hk
    exact ⟨(DFor.new hl.dev this).same hb, by have := block_lt hl.log; omega⟩
theorem Far.new (hl : LogAt base w b lb d fr ln head next) (hk : ∀ k, v.ownBlock = some k → w.heap.size ≤ k) (hb : Below w.heap.size w w') : Far w' b lb v := fun k e =>
  ⟨(DFor.new hl.dev (hk k e)).same (hb.block b hl.dev.lt), by have := hk k e; have := block_lt hl.log; omega⟩
end

set_option maxHeartbeats 1600000 in
theorem force_any {base : Nat} {w : World} {b lb : Nat} {d : Dev} {fr ln head next : Int} (h : LogAt base w b lb d fr ln head next) (hok : d.Ok) (hl : d.left < 9223372036854775808) (hc : d.calls < 4611686018427387904) (hn : d.W.length ≤ 1099511627776) (hm : d.L.length ≤ 1099511627776) :
    Calls Tryd.prog 12 #[.pointer (some ⟨lb, 0, none⟩)] w fun e w' => e = .returned (.int .i64 d.flushE) ∧ LogAt base w' b lb d.flush fr ln head next ∧ LStep b lb w w' := by
  have HFL := hide (flush_any h.dev hok hl hc hn hm)
  obtain ⟨c0, c1, c2, c3, c4⟩ := wl_cells h.log
  generalize d.flushE = E at *
  clear hok hl hc hn hm
  go_enter Tryd.func12, Tryd.ntmps12
  go_wp2_with fail
  refine (unhide HFL).mono ?_
  rintro e w1 ⟨rfl, hd1, hs1⟩
  have HE := hide (show LogAt base w1 b lb d.flush fr ln head next ∧ LStep b lb w w1 from ⟨h.step hd1 hs1, LStep.of hs1⟩)
  clear hd1 hs1 HFL
  go_wp2_with fail
  go_ret
  exact ⟨rfl, unhide HE⟩

/- An Append of a log whose device has power: it fits, or nothing changes. -/
theorem append_law {base : Nat} {w : World} {b lb : Nat} {D : Dev} {fr ln x must : Nat} {ts : List (List UInt8)} (hp : PD fr ln x ts must D) (h : LogAt base w b lb D fr ln x ((x + Codec.costs ts : Nat) : Int)) (t : List UInt8) (hB : base ≤ w.heap.size) (ht : t.length ≤ 1000) (hl : 0 < ln) (hfl : fr + ln ≤ 24) (hx : 1 ≤ x) (hx2 : x + ln ≤ 1099511627776) :
    Calls Tryd.prog 11 #[.pointer (some ⟨lb, 0, none⟩), .string (S t)] w fun e w' => ∃ (er r0 r1 : Int) (rt : ByteArray), e = .returned (.tuple #[.agg #[.int .i64 r0, .int .i64 r1, .string rt], .int .i64 er]) ∧ LStep b lb w w' ∧
      ((er = 0 ∧ Codec.costs ts + Codec.cost t.length ≤ ln ∧ r0 = ((x + Codec.costs ts : Nat) : Int) ∧ r1 = ((x + Codec.costs ts + Codec.cost t.length - 1 : Nat) : Int) ∧ rt = S t ∧ PD fr ln x (ts ++ [t]) must (Dev.put fr ln t (x + Codec.costs ts) D) ∧ LogAt base w' b lb (Dev.put fr ln t (x + Codec.costs ts) D) fr ln x ((x + Codec.costs (ts ++ [t]) : Nat) : Int)) ∨
       (er = 13 ∧ ln < Codec.costs ts + Codec.cost t.length ∧ r0 = 0 ∧ r1 = 0 ∧ rt = ⟨#[]⟩ ∧ LogAt base w' b lb D fr ln x ((x + Codec.costs ts : Nat) : Int))) := by
  have hcs : Codec.costs (ts ++ [t]) = Codec.costs ts + Codec.cost t.length := by rw [Codec.costs_append]; simp [Codec.costs]
  have hcst := hp.cst
  by_cases hfit : Codec.costs ts + Codec.cost t.length ≤ ln
  · obtain ⟨h1, h2⟩ := hp.app t hl hfl hx hx2 hfit
    have hap := append_put (head := x) (x := x + Codec.costs ts) h t hB (by omega) (by omega) (by omega) (by omega) (by omega) (by omega) (by omega) (by rw [hp.lf]; omega) (by have := hp.cl; omega) (by have := hp.wl; omega)
    rw [h2] at hap
    refine hap.mono ?_
    rintro e w' ⟨k1, k2, k3⟩
    obtain ⟨rfl, hl'⟩ := k1 rfl
    refine ⟨0, _, _, _, rfl, k3, Or.inl ⟨rfl, hfit, rfl, rfl, rfl, h1, ?_⟩⟩
    rw [hcs, ← Nat.add_assoc]
    exact hl'
  · refine (append_full (head := x) (x := x + Codec.costs ts) h t (by omega) (by omega) (by omega) (by omega) (by omega)).mono ?_
    rintro e w' ⟨rfl, hb⟩
    obtain ⟨h1, h2⟩ := h.later hb
    exact ⟨13, 0, 0, ⟨#[]⟩, rfl, h2, Or.inr ⟨rfl, by omega, rfl, rfl, rfl, h1⟩⟩
end Go.Proofs.YtajcaglbbdbibaaDoor
