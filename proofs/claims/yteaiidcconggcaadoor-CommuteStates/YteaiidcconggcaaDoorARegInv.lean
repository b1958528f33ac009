/- A region that draws its order, by a condition on what has come up: one obligation an operation, no walk over the orders. -/
import Derived.Orders
import Derived.OrdersHeld
import Derived.Deep.RegionHeld3
import Derived.Test.YteaiidcconggcaaDoorBundleC1
namespace Go.Proofs.YteaiidcconggcaaDoor
open Go.RowKit
set_option linter.unusedVariables false
set_option maxRecDepth 100000

/- How many operations have not come up. -/
def leftOf (n : Nat) (listed : Array Bool) : Nat := ((List.range n).filter fun i => !listed.getD i true).length
theorem leftOf_step {n i : Nat} {listed : Array Bool} (hi : i < n) (hs : listed.size = n) (hl : listed.getD i true = false) : leftOf n (listed.setIfInBounds i true) + 1 ≤ leftOf n listed := by
  unfold leftOf
  have h1 : ((List.range n).filter fun j => !(listed.setIfInBounds i true).getD j true).length + 1 ≤ ((List.range n).filter fun j => !listed.getD j true).length := by
    have hsub : ∀ j, (!(listed.setIfInBounds i true).getD j true) = true → ((!listed.getD j true) && j != i) = true := by
      intro j hj
      by_cases e : i = j
      · subst e
        rw [show (listed.setIfInBounds i true).getD i true = true by simp [Array.getD, hs, hi]] at hj
        cases hj
      · have e2 : (listed.setIfInBounds i true).getD j true = listed.getD j true := by
          simp [Array.getElem?_setIfInBounds_ne e]
        rw [e2] at hj
        rw [hj]
        simp
        exact fun h => e h.symm
    have h2 : ((List.range n).filter fun j => !(listed.setIfInBounds i true).getD j true).length ≤ ((List.range n).filter fun j => (!listed.getD j true) && j != i).length := by
      rw [← List.countP_eq_length_filter, ← List.countP_eq_length_filter]
      exact List.countP_mono_left (fun j _ h => hsub j h)
    have h3 : ((List.range n).filter fun j => (!listed.getD j true) && j != i) = ((List.range n).filter fun j => !listed.getD j true).erase i := by
      rw [List.Nodup.erase_eq_filter ((List.nodup_range).filter _), List.filter_filter]
      congr 1
      funext j
      rw [Bool.and_comm]
    have hm : i ∈ (List.range n).filter fun j => !listed.getD j true := by
      rw [List.mem_filter, List.mem_range]
      exact ⟨hi, by rw [hl]; rfl⟩
    rw [h3, List.length_erase_of_mem hm] at h2
    have := List.length_pos_of_mem hm
    omega
  exact h1

theorem wpAny_inv {P : Program} {ops : Array Oper} {Q : Exit → Act → World → Prop} {md : Region.Mode} (I : Array Bool → Act → World → Prop)
    (hstep : ∀ listed a w, listed.size = ops.size → I listed a w → ∀ i, i ∈ Region.ready md ops listed → wpOp P ops Q i (I (listed.setIfInBounds i true)) a w)
    (hend : ∀ listed a w, listed.size = ops.size → I listed a w → Region.ready md ops listed = [] → Q .normal a w) :
    ∀ (fuel : Nat) (listed : Array Bool) (a : Act) (w : World), listed.size = ops.size → leftOf ops.size listed ≤ fuel → I listed a w → wpAny P md ops Q fuel listed a w := by
  intro fuel
  induction fuel with
  | zero =>
    intro listed a w hs hf hI
    have hr : Region.ready md ops listed = [] := by
      rw [List.eq_nil_iff_forall_not_mem]
      intro i hi
      obtain ⟨h0, o, ho, _⟩ := mem_ready.1 hi
      have hlt := (Array.getElem?_eq_some_iff.1 ho).1
      have := leftOf_step hlt hs (by simpa using h0)
      omega
    exact ⟨hr, hend listed a w hs hI hr⟩
  | succ fuel ih =>
    intro listed a w hs hf hI
    refine ⟨hend listed a w hs hI, fun i hi => ?_⟩
    obtain ⟨h0, o, ho, _⟩ := mem_ready.1 hi
    have hlt := (Array.getElem?_eq_some_iff.1 ho).1
    have hst := leftOf_step hlt hs (by simpa using h0)
    exact wpOp_mono (fun a' w' h => ih _ a' w' (by simpa using hs) (by omega) h) (hstep listed a w hs hI i hi)

theorem wp_region_inv {P : Program} {ops : Array Oper} {Q : Exit → Act → World → Prop} {id : Nat} {a : Act} {w : World} (I : Array Bool → Act → World → Prop) (hm : P.follows .mixedOrders = true)
    (h0 : I (Array.replicate ops.size false) a w.drew)
    (hstep : ∀ listed a w, listed.size = ops.size → I listed a w → ∀ i, i ∈ Region.ready .any ops listed → wpOp P ops Q i (I (listed.setIfInBounds i true)) a w)
    (hend : ∀ listed a w, listed.size = ops.size → I listed a w → Region.ready .any ops listed = [] → Q .normal a w) :
    (Code.region id ops true).wp P Q a w := by
  refine wp_region_any hm (wpAny_inv I hstep hend ops.size _ a _ (by simp) ?_ h0)
  unfold leftOf
  refine Nat.le_trans (List.length_filter_le _ _) (by simp)
end Go.Proofs.YteaiidcconggcaaDoor
