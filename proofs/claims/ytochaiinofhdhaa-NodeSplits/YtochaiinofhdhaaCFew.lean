/- The contract of Few: at most so many texts of a slice that came in, each cut, in new memory. -/
import Derived.Test.YtochaiinofhdhaaCOne
namespace Go.Proofs.Ytochaiinofhdhaa
open Go.RowKit
set_option linter.unusedVariables false
set_option maxRecDepth 100000

/- What the walk is told of a slice of texts that came in. -/
def IsStrs (w : World) (a : Option Addr) (len cap : Nat) (zs : List ByteArray) : Prop :=
  (a = none ∧ len = 0 ∧ cap = 0 ∧ zs = []) ∨
  ∃ x, a = some x ∧ len ≤ cap ∧ cap ≤ maxLen ∧ zs.length = cap ∧ (∀ i, i < zs.length → w.cell? (x.add i) = some (.string (zs.getD i ByteArray.empty))) ∧ ∀ s ∈ zs, s.size ≤ maxLen

theorem IsStrs.norm {w : World} {a : Option Addr} {len cap : Nat} {zs : List ByteArray} (h : IsStrs w a len cap zs) :
    ∃ l : List (List UInt8), l.length = len ∧ len ≤ maxLen ∧ (∀ i (hi : i < l.length), l[i].length ≤ maxLen) ∧ Texts w a l := by
  rcases h with ⟨rfl, rfl, rfl, rfl⟩ | ⟨x, rfl, hl, hm, hz, hc, hs⟩
  · exact ⟨[], rfl, by simp [maxLen], by simp, fun i hi => by simp at hi⟩
  · refine ⟨(zs.take len).map (fun s => s.data.toList), by simp; omega, by omega, ?_, ?_⟩
    · intro i hi
      rw [List.getElem_map]
      apply hs
      rw [List.getElem_take]
      exact List.getElem_mem _
    · intro i hi
      simp at hi
      have h1 := hc i (by omega)
      obtain ⟨b, off, spot⟩ := x
      have hspot : spot = none := by simpa [Addr.add] using World.cell?_spot (hc 0 (by omega))
      subst hspot
      have h2 : w.cell? ⟨b, off + i, none⟩ = some (.string (zs.getD i ByteArray.empty)) := by rw [← plain_add]; exact h1
      refine ⟨b, off, rfl, cell_lt h2, ?_⟩
      rw [h2, List.getElem_map, List.getElem_take, S_eta]
      simp [List.getD, List.getElem?_eq_getElem (show i < zs.length by omega)]

def T9 (l : List (List UInt8)) : List Value := l.map fun x => Value.string (S x)
theorem T9_append (a b : List (List UInt8)) : T9 (a ++ b) = T9 a ++ T9 b := by simp [T9]
theorem T9_length (a : List (List UInt8)) : (T9 a).length = a.length := by simp [T9]

theorem under_strings : Try.prog.underlying 22 = some (.slice 9) := by kernel_rfl
theorem info_string : (Try.prog.info? 9).map (fun i => (i.zero, i.size, i.bytes)) = some (some (.string ⟨#[]⟩), 1, 16) := by kernel_rfl

/- An owned row of texts, read. -/
theorem texts_of_own {w : World} {base : Nat} {v : Value} {l : List (List UInt8)} (h : w.ownsRow base 9 1 v l.length (T9 l)) :
    ∃ a c, v = .slice a l.length c ∧ Texts w a l ∧ (l = [] ∧ a = none ∨ ∃ g, a = some ⟨g, 0, none⟩) := by
  rcases h.2 with ⟨rfl, hn⟩ | ⟨g, cap, cur, rfl, hb, hg, hnc, hcm, hcs, ht⟩
  · have : l = [] := List.length_eq_zero_iff.1 hn
    subst this
    exact ⟨none, 0, rfl, fun i hi => by simp at hi, Or.inl ⟨rfl, rfl⟩⟩
  · refine ⟨_, cap, rfl, fun i hi => ⟨g, 0, rfl, ?_, ?_⟩, Or.inr ⟨g, rfl⟩⟩
    · rcases Nat.lt_or_ge g w.heap.size with h | h
      · exact h
      · simp [Array.getElem?_eq_none h] at hg
    · rw [Nat.zero_add, h.cellAt i (by omega)]
      simp [T9, hi]

def few (l : List (List UInt8)) (n m : Nat) : List (List UInt8) := (l.take n).map fun x => x.take m
theorem few_length (l : List (List UInt8)) (n m : Nat) : (few l n m).length = min n l.length := by simp [few]
theorem few_at (l : List (List UInt8)) (n m i : Nat) (h : i < (few l n m).length) : (few l n m)[i].length ≤ m := by
  simp [few]; omega
theorem few_snoc (l : List (List UInt8)) (n m k : Nat) (hk : k < l.length) (hn : k < n) : (few l n m).take (k + 1) = (few l n m).take k ++ [(l[k]).take m] := by
  have h : k < (few l n m).length := by rw [few_length]; omega
  rw [List.take_succ_eq_append_getElem h]
  congr 2
  simp [few]

set_option maxHeartbeats 400000 in
theorem few_any (l : List (List UInt8)) (n m : Nat) (a : Option Addr) (len cap : Nat) (w : World) (hlen : l.length = len) (hm : len ≤ maxLen) (hz : ∀ i (h : i < l.length), l[i].length ≤ maxLen) (ht : Texts w a l)
    (hn : n ≤ 64) (hmm : m ≤ 1048576) :
    Calls Try.prog 9 #[.slice a len cap, .int .i64 n, .int .i64 m] w fun e w' => ∃ v, e = .returned v ∧ w'.ownsRow w.heap.size 9 1 v (few l n m).length (T9 (few l n m)) ∧ Below w.heap.size w w' := by
  obtain ⟨i0, hi, hz0, hz1, hz2⟩ := info_parts info_string
  have HT := hide ht
  have HZ := hide hz
  have HL := hide hlen
  have HFL := hide (few_length l n m)
  unfold maxLen at hm
  clear ht hz hlen
  go_enter Try.func9, Try.ntmps9
  go_wp2_with fail
  go_loopw [7, 8] (fun x i wr => ∃ k : Nat, k ≤ len ∧ k ≤ n ∧ i = .int .i64 k ∧ wr.ownsRow w.heap.size 9 1 x k (T9 ((few l n m).take k)) ∧ Below w.heap.size w wr ∧ w.heap.size ≤ wr.heap.size) (fun _ i _ => n - (intOf i).toNat)
  case atStart => exact ⟨0, by omega, by omega, rfl, World.ownsRow_nil _ _ _ _, Below.refl _ _, Nat.le_refl _⟩
  case round =>
    obtain ⟨k, hk, hkn, rfl, hown, hbw, hle⟩ := hrel
    by_cases hlt : k < len
    · by_cases hltn : k < n
      · have hkl : k < l.length := by rw [unhide HL]; exact hlt
        obtain ⟨b, off, ha, hblt, hcell⟩ := unhide HT k hkl
        subst ha
        rw [← hbw.cell (p := ⟨b, off + k, none⟩) hblt] at hcell
        have HCUT := hide (cut_any (S l[k]) m wr (unhide HZ k hkl))
        have hst : (S l[k]).data.toList = l[k] := rfl
        rw [hst] at HCUT
        have HSN := hide (few_snoc l n m k hkl hltn)
        have HOWN := hide hown
        clear hown hst
        generalize l[k] = p at *
        generalize p.take m = q at *
        go_wp2_with fail
        refine (unhide HCUT).mono ?_
        rintro e wq ⟨rfl, rfl⟩
        clear HCUT hcell
        go_wp2_with (first | (at_builtin; refine wpList_append_fresh rfl _ _ 22 rfl w.heap.size 9 i0 (.string ⟨#[]⟩) 1 16 under_strings hi hz0 hz1 hz2 rfl (by decide) _ _ _ rfl ((unhide HOWN).alloc _) ⟨wq.heap.size, 0, none⟩ 1 1 [.string (S q)] rfl rfl (cell_one_new _ _ _) ?c2 ?c3 ?c4 ?c5 ?_) | fail)
        case c2 => intro u hu; simp at hu; subst hu; rfl
        case c3 => unfold maxLen; omega
        case c4 => omega
        case c5 => simp; omega
        intro v' w2 hown' hgrow _
        have hlo := (unhide HOWN).lt
        have hsz := hgrow.size
        simp at hsz
        have e : T9 ((few l n m).take (k + 1)) = T9 ((few l n m).take k) ++ [.string (S q)] := by rw [unhide HSN, T9_append]; rfl
        have HO2 : Hid (w2.ownsRow w.heap.size 9 1 v' (k + 1) (T9 ((few l n m).take (k + 1)))) := by
          show _
          rw [e]; exact hown'
        have HB2 : Hid (Below w.heap.size w w2) := (hbw.alloc hle _).grown hgrow (by simp; omega) (fun j hj => (hlo j hj).1)
        clear hown' hgrow e hlo
        go_wp2
        go_roundw
        case rel => exact ⟨k + 1, by omega, by omega, by go_num, unhide HO2, unhide HB2, by omega⟩
        case measure => simp [intOf]; omega
      · have hfl : (few l n m).length = k := by rw [unhide HFL, unhide HL]; omega
        have e : (few l n m).take k = few l n m := by rw [← hfl]; exact List.take_length
        rw [e] at hown
        have HE := hide hfl
        clear e hfl
        go_wp2
        go_ret
        exact ⟨_, rfl, by rw [unhide HE]; exact hown, hbw⟩
    · have hfl : (few l n m).length = k := by rw [unhide HFL, unhide HL]; omega
      have e : (few l n m).take k = few l n m := by rw [← hfl]; exact List.take_length
      rw [e] at hown
      have HE := hide hfl
      clear e hfl
      go_wp2
      go_ret
      exact ⟨_, rfl, by rw [unhide HE]; exact hown, hbw⟩
end Go.Proofs.Ytochaiinofhdhaa
