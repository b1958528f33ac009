/- Texts that this proof needs, one behind the other: TFind, TRes, TClone, TAns, TTakes, TTaken, TAnsw. -/
import Derived.Test.YteaiidcconggcaaDoorTMath
import Derived.Test.YteaiidcconggcaaDoorVTold
import Derived.Test.YteaiidcconggcaaDoorVLike
import Derived.Shelf.SlicesE.Clone
import Derived.Test.YteaiidcconggcaaDoorMFacts
/- The contracts of Find, the program's and the document's. -/
namespace Go.Proofs.YteaiidcconggcaaDoor
open Go.RowKit
set_option linter.unusedVariables false
set_option maxRecDepth 100000

theorem find_yes (key : List UInt8) (rows : List (List UInt8 × List UInt8)) (z : Int) (k : Nat) (hk : k < rows.length) (hno : ∀ j (h : j < rows.length), j < k → (rows[j]'h).1 ≠ key) (e : (rows[k]'hk).1 = key) : (if decide (hits key rows < rows.length) = true then ((hits key rows : Nat) : Int) else z) = (k : Int) ∧ decide (hits key rows < rows.length) = true := by
  have := hits_past key rows k hno hk e
  rw [this, decide_eq_true hk, if_pos rfl]
  exact ⟨rfl, rfl⟩
theorem find_no (key : List UInt8) (rows : List (List UInt8 × List UInt8)) (z : Int) (hno : ∀ j (h : j < rows.length), (rows[j]'h).1 ≠ key) : (if decide (hits key rows < rows.length) = true then ((hits key rows : Nat) : Int) else z) = z ∧ decide (hits key rows < rows.length) = false := by
  have := hits_none key rows hno
  rw [this, decide_eq_false (by omega), if_neg (by simp)]
  exact ⟨rfl, rfl⟩
theorem find_next {key : List UInt8} {rows : List (List UInt8 × List UInt8)} {k : Nat} (hk : k < rows.length) (hno : ∀ j (h : j < rows.length), j < k → (rows[j]'h).1 ≠ key) (e : (rows[k]'hk).1 ≠ key) : ∀ j (h : j < rows.length), j < k + 1 → (rows[j]'h).1 ≠ key := fun j h hj => by
  by_cases hjk : j = k
  · subst hjk; exact e
  · exact hno j h (by omega)
theorem vfind_any {w : World} {v : Value} {s : VS} (h : StAt w v s) (key : List UInt8) :
    Calls Tryd.prog 77 #[v, .string (S key)] w fun e w' => e = .returned (.tuple #[.int .i64 (if s.has key then ((hits key s.rows : Nat) : Int) else 0), .bool (s.has key)]) ∧ Below w.heap.size w w' := by
  obtain ⟨k0, rfl, hr⟩ := h
  obtain ⟨a, c, rfl, hc, hm⟩ := hr.shape
  unfold maxLen at hm
  obtain ⟨kd, n, rows⟩ := s
  dsimp only at *
  have HROW := hide hr
  have HYES := hide (find_yes key rows 0)
  have HNO := hide (find_no key rows 0)
  obtain ⟨R1, hR1⟩ : ∃ R1 : Int, (if VS.has ⟨kd, n, rows⟩ key = true then ((hits key rows : Nat) : Int) else 0) = R1 := ⟨_, rfl⟩
  obtain ⟨R2, hR2⟩ : ∃ R2, VS.has ⟨kd, n, rows⟩ key = R2 := ⟨_, rfl⟩
  rw [hR2] at hR1 ⊢
  rw [hR1]
  unfold VS.has at hR2
  dsimp only at hR2
  rw [hR2, hR1] at HYES HNO
  clear hr hR1 hR2
  go_enter Tryd.func77, Tryd.ntmps77
  go_wp2_with fail
  go_loopw [11] (fun i wr => ∃ k : Nat, k ≤ rows.length ∧ i = .int .i64 (k : Int) ∧ (∀ j (h : j < rows.length), j < k → (rows[j]'h).1 ≠ key) ∧ Below w.heap.size w wr) (fun i _ => rows.length - (intOf i).toNat)
  case atStart => exact ⟨0, Nat.zero_le _, rfl, fun j _ hj => by omega, under_box _⟩
  case round =>
    obtain ⟨k, hk, rfl, hno, hlow⟩ := hrel
    by_cases hlt : k < rows.length
    · obtain ⟨b, off, rfl, hbl, e1, e2⟩ := (unhide HROW).at k hlt
      rw [← hlow.cell (p := ⟨b, off + k * 2, none⟩) hbl] at e1
      rw [← hlow.cell (p := ⟨b, off + k * 2 + 1, none⟩) hbl] at e2
      have hne : wr.heap.size ≠ b := by have := hlow.size; omega
      have HY := hide (fun e => unhide HYES k hlt hno e)
      have HN := hide (fun (e : (rows[k]'hlt).1 ≠ key) => find_next hlt hno e)
      generalize rows[k]'hlt = r at *
      obtain ⟨x, y⟩ := r
      dsimp only at *
      have hi0 : (0 : Int) ≤ (k : Int) := by omega
      have hi1 : (k : Int) < ((rows.length : Nat) : Int) := by omega
      have s1 := S_eq x key
      have HLW := hide (fun (o : Obj) => hlow.alloc hlow.size o)
      clear hno hlow
      by_cases hx : x = key
      · rw [decide_eq_true hx] at s1
        obtain ⟨rfl, rfl⟩ := unhide HY hx
        clear hx HY HN HYES HNO
        go_wp2_with fail
        exact bodyPost_ret (v := .tuple #[.int .i64 (k : Int), .bool true]) (by simp [results, Tryd.results77, go_sem]) rfl ⟨rfl, unhide HLW _⟩
      · rw [decide_eq_false hx] at s1
        have HN2 := hide (unhide HN hx)
        clear hx HY HN
        go_wp2_with fail
        go_roundw
        case rel => exact ⟨k + 1, by omega, by go_num, unhide HN2, unhide HLW _⟩
        case measure => simp [intOf]; omega
    · have hkn : k = rows.length := by omega
      obtain ⟨rfl, rfl⟩ := unhide HNO fun j h => hno j h (by omega)
      have HLW := hide hlow
      clear hno hlow HYES HNO
      subst hkn
      go_wp2_with fail
      exact bodyPost_ret (v := .tuple #[.int .i64 0, .bool false]) (by simp [results, Tryd.results77, go_sem]) rfl ⟨rfl, unhide HLW⟩
theorem rfind_any {w : World} {v : Value} {s : VS} (h : StAt w v s) (key : List UInt8) :
    Calls Tryd.prog 33 #[v, .string (S key)] w fun e w' => e = .returned (.int .i64 (if s.has key then ((hits key s.rows : Nat) : Int) else -1)) ∧ Below w.heap.size w w' := by
  obtain ⟨k0, rfl, hr⟩ := h
  obtain ⟨a, c, rfl, hc, hm⟩ := hr.shape
  unfold maxLen at hm
  obtain ⟨kd, n, rows⟩ := s
  dsimp only at *
  have HROW := hide hr
  have HYES := hide (find_yes key rows (-1))
  have HNO := hide (find_no key rows (-1))
  obtain ⟨R1, hR1⟩ : ∃ R1 : Int, (if VS.has ⟨kd, n, rows⟩ key = true then ((hits key rows : Nat) : Int) else (-1)) = R1 := ⟨_, rfl⟩
  obtain ⟨R2, hR2⟩ : ∃ R2, VS.has ⟨kd, n, rows⟩ key = R2 := ⟨_, rfl⟩
  rw [hR2] at hR1 ⊢
  rw [hR1]
  unfold VS.has at hR2
  dsimp only at hR2
  rw [hR2, hR1] at HYES HNO
  clear hr hR1 hR2
  go_enter Tryd.func33, Tryd.ntmps33
  go_wp2_with fail
  go_loopw [10] (fun i wr => ∃ k : Nat, k ≤ rows.length ∧ i = .int .i64 (k : Int) ∧ (∀ j (h : j < rows.length), j < k → (rows[j]'h).1 ≠ key) ∧ Below w.heap.size w wr) (fun i _ => rows.length - (intOf i).toNat)
  case atStart => exact ⟨0, Nat.zero_le _, rfl, fun j _ hj => by omega, under_box _⟩
  case round =>
    obtain ⟨k, hk, rfl, hno, hlow⟩ := hrel
    by_cases hlt : k < rows.length
    · obtain ⟨b, off, rfl, hbl, e1, e2⟩ := (unhide HROW).at k hlt
      rw [← hlow.cell (p := ⟨b, off + k * 2, none⟩) hbl] at e1
      rw [← hlow.cell (p := ⟨b, off + k * 2 + 1, none⟩) hbl] at e2
      have hne : wr.heap.size ≠ b := by have := hlow.size; omega
      have HY := hide (fun e => unhide HYES k hlt hno e)
      have HN := hide (fun (e : (rows[k]'hlt).1 ≠ key) => find_next hlt hno e)
      generalize rows[k]'hlt = r at *
      obtain ⟨x, y⟩ := r
      dsimp only at *
      have hi0 : (0 : Int) ≤ (k : Int) := by omega
      have hi1 : (k : Int) < ((rows.length : Nat) : Int) := by omega
      have s1 := S_eq x key
      have HLW := hide (fun (o : Obj) => hlow.alloc hlow.size o)
      clear hno hlow
      by_cases hx : x = key
      · rw [decide_eq_true hx] at s1
        obtain ⟨rfl, rfl⟩ := unhide HY hx
        clear hx HY HN HYES HNO
        go_wp2_with fail
        go_ret
        exact ⟨rfl, unhide HLW _⟩
      · rw [decide_eq_false hx] at s1
        have HN2 := hide (unhide HN hx)
        clear hx HY HN
        go_wp2_with fail
        go_roundw
        case rel => exact ⟨k + 1, by omega, by go_num, unhide HN2, unhide HLW _⟩
        case measure => simp [intOf]; omega
    · have hkn : k = rows.length := by omega
      obtain ⟨rfl, rfl⟩ := unhide HNO fun j h => hno j h (by omega)
      have HLW := hide hlow
      clear hno hlow HYES HNO
      subst hkn
      go_wp2_with fail
      go_ret
      exact ⟨rfl, unhide HLW⟩
end Go.Proofs.YteaiidcconggcaaDoor
/- A row of answers in memory: of three cells each, wherever it lies. -/
namespace Go.Proofs.YteaiidcconggcaaDoor
open Go.RowKit
set_option linter.unusedVariables false
set_option maxRecDepth 100000

def E3 : List MR → List Value
  | [] => []
  | x :: r => .int .i64 x.code :: .string (S x.text) :: .int .i64 x.n :: E3 r
theorem E3_append (a b : List MR) : E3 (a ++ b) = E3 a ++ E3 b := by
  induction a with
  | nil => rfl
  | cons x r ih => simp [E3, ih]
theorem E3_length (a : List MR) : (E3 a).length = a.length * 3 := by
  induction a with
  | nil => rfl
  | cons x r ih => simp [E3, ih]; omega
theorem E3_get : ∀ (a : List MR) (k : Nat) (h : k < a.length), (E3 a)[k * 3]? = some (.int .i64 (a[k]'h).code) ∧ (E3 a)[k * 3 + 1]? = some (.string (S (a[k]'h).text)) ∧ (E3 a)[k * 3 + 2]? = some (.int .i64 (a[k]'h).n)
  | x :: r, 0, h => by simp [E3]
  | x :: r, k + 1, h => by
    have := E3_get r k (by simpa using h)
    have e : (k + 1) * 3 = k * 3 + 1 + 1 + 1 := by omega
    rw [e]
    simpa [E3] using this
theorem E3_one (l : List MR) : ∀ u ∈ E3 l, u.oneCell' = true := by
  induction l with
  | nil => intro u hu; cases hu
  | cons x r ih =>
    intro u hu
    simp only [E3, List.mem_cons] at hu
    rcases hu with rfl | rfl | rfl | hu
    · rfl
    · rfl
    · rfl
    · exact ih u hu

def Row3 (w : World) (v : Value) (l : List MR) : Prop :=
  ∃ a c, v = .slice a l.length c ∧ l.length ≤ c ∧ c ≤ maxLen ∧ (a = none → c = 0) ∧ ∀ i u, (E3 l)[i]? = some u → ∃ b off, a = some ⟨b, off, none⟩ ∧ b < w.heap.size ∧ w.cell? ⟨b, off + i, none⟩ = some u
theorem Row3.later {w w' : World} {v : Value} {l : List MR} (h : Row3 w v l) (hb : Below w.heap.size w w') : Row3 w' v l := by
  obtain ⟨a, c, e, h1, h2, h0, h3⟩ := h
  refine ⟨a, c, e, h1, h2, h0, fun i u hu => ?_⟩
  obtain ⟨b, off, ea, hlt, hc⟩ := h3 i u hu
  exact ⟨b, off, ea, by have := hb.size; omega, by rw [hb.cell (p := ⟨b, off + i, none⟩) hlt]; exact hc⟩
theorem Row3.nil (w : World) : Row3 w (.slice none 0 0) [] := ⟨none, 0, rfl, Nat.le_refl _, by simp [maxLen], fun _ => rfl, fun i u h => by simp [E3] at h⟩
theorem Row3.of_own {w : World} {base : Nat} {e : TypeId} {v : Value} {l : List MR} (h : w.ownsRow base e 3 v l.length (E3 l)) : Row3 w v l := by
  rcases h.2 with ⟨rfl, h0⟩ | ⟨g, cap, cur, rfl, hb, hh, hn, hm, hs, ht⟩
  · have : l = [] := List.eq_nil_of_length_eq_zero h0
    subst this
    exact Row3.nil w
  · refine ⟨_, cap, rfl, hn, hm, fun e => (by cases e), fun i u hu => ⟨g, 0, rfl, block_lt hh, ?_⟩⟩
    rw [Nat.zero_add]
    exact ownsRow_cell h rfl i u hu
theorem Row3.one {w : World} {b : Nat} {r : MR} {t : TypeId} (h : w.heap[b]? = some (.cells #[.int .i64 r.code, .string (S r.text), .int .i64 r.n] t (0, 0))) : Row3 w (.slice (some ⟨b, 0, none⟩) 1 1) [r] := by
  refine ⟨_, 1, rfl, Nat.le_refl _, by simp [maxLen], fun e => (by cases e), fun i u hu => ⟨b, 0, rfl, block_lt h, ?_⟩⟩
  rw [Nat.zero_add, block_cell h]
  match i, hu with
  | 0, hu => exact hu
  | 1, hu => exact hu
  | 2, hu => exact hu
  | i + 3, hu => simp [E3] at hu
theorem Row3.new (w : World) (r : MR) (t : TypeId) : Row3 (w.alloc (.cells #[.int .i64 r.code, .string (S r.text), .int .i64 r.n] t)) (.slice (some ⟨w.heap.size, 0, none⟩) 1 1) [r] := Row3.one (heap_alloc_new w _)
theorem Row3.at {w : World} {a : Option Addr} {n c : Nat} {l : List MR} (h : Row3 w (.slice a n c) l) (i : Nat) (hi : i < l.length) :
    ∃ b off, a = some ⟨b, off, none⟩ ∧ b < w.heap.size ∧ w.cell? ⟨b, off + i * 3, none⟩ = some (.int .i64 (l[i]'hi).code) ∧ w.cell? ⟨b, off + i * 3 + 1, none⟩ = some (.string (S (l[i]'hi).text)) ∧ w.cell? ⟨b, off + i * 3 + 2, none⟩ = some (.int .i64 (l[i]'hi).n) := by
  obtain ⟨a', c', e, h1, h2, h0, h3⟩ := h
  injection e with e1 e2 e3
  subst e1 e2 e3
  obtain ⟨g0, g1, g2⟩ := E3_get l i hi
  obtain ⟨b, off, ea, hlt, hc⟩ := h3 _ _ g0
  obtain ⟨b', off', ea', _, hc'⟩ := h3 _ _ g1
  rw [ea] at ea'
  cases ea'
  obtain ⟨b'', off'', ea'', _, hc''⟩ := h3 _ _ g2
  rw [ea] at ea''
  cases ea''
  exact ⟨b, off, ea, hlt, hc, by rw [Nat.add_assoc]; exact hc', by rw [Nat.add_assoc]; exact hc''⟩
theorem Row3.shape {w : World} {v : Value} {l : List MR} (h : Row3 w v l) : ∃ a c, v = .slice a l.length c ∧ l.length ≤ c ∧ c ≤ maxLen := by
  obtain ⟨a, c, e, h1, h2, _, _⟩ := h
  exact ⟨a, c, e, h1, h2⟩
end Go.Proofs.YteaiidcconggcaaDoor
/- The contracts of slices.Clone at rows of two texts, of a state's Clone, of New. -/
namespace Go.Proofs.YteaiidcconggcaaDoor
open Go.RowKit
set_option linter.unusedVariables false
set_option maxRecDepth 100000

def cloneR_ren : Go.Shelf.Ren := ⟨fun | 41 => 58 | n => n, fun | 22 => 45 | 23 => 82 | 4 => 4 | n => n, fun | n => n⟩
theorem cloneR_lays : Go.Proofs.SlLaysE0.n41 Tryd.prog cloneR_ren := {
  mixed := by kernel_rfl
  f41 := ⟨Tryd.f58.name, by decide, Tryd.func58.trans (congrArg some (by kernel_rfl))⟩
  t4 := Tryd.underlying4
  a4 := Tryd.isAgg4
  z4 := Tryd.sizeOf4
  v4 := Tryd.zeroValue4
  t22 := Tryd.underlying45
  a22 := Tryd.isAgg45
  z22 := Tryd.sizeOf45
  v22 := Tryd.zeroValue45 }
theorem rclone_any {base : Nat} {w : World} {sv : Value} {l : List (List UInt8 × List UInt8)} (h : w.ownsRow base 82 2 sv l.length (R9 l)) (hn : l.length ≤ 1000) :
    Calls Tryd.prog 58 #[sv] w fun e w' => ∃ v, e = .returned v ∧ w'.ownsRow w.heap.size 82 2 v l.length (R9 l) ∧ Below w.heap.size w w' := by
  obtain ⟨i0, hi, hz0, hz1, hz2⟩ := info_parts info_vrow
  rcases h.2 with ⟨rfl, h0⟩ | ⟨g, cap, cur, rfl, hb, hh, hc, hm, hcs, ht⟩
  · have e : l = [] := List.eq_nil_of_length_eq_zero h0
    subst e
    refine (AnyE.slices_Clone_nil cloneR_lays 0 0 w).mono fun e w' ⟨h1, h2⟩ => ?_
    subst h1 h2
    exact ⟨_, rfl, World.ownsRow_nil _ _ _ _, Below.refl _ _⟩
  · refine (AnyE.slices_Clone cloneR_lays i0 (.agg #[.string ⟨#[]⟩, .string ⟨#[]⟩]) 2 32 hi hz0 hz1 hz2 rfl (by decide) Tryd.sizeOf82 g 0 l.length cap (R9 l) w h.1 (by unfold maxLen; omega) (by omega) (fun j u hu => ?_) (R9_one l)).mono fun e w' ⟨v, h1, h2, _, h3⟩ => ⟨v, h1, h2, h3⟩
    rw [Nat.zero_add]
    exact ownsRow_cell h rfl j u hu
section
variable {w w1 : World} {a b c a' b' c' : Value} {t t' : TypeId}
theorem B2.blocks (h : B2 w (.cells #[a, b, c] t (0, 0)) (.cells #[a', b', c'] t' (0, 0)) w1) : w1.heap[w.heap.size]? = some (.cells #[a, b, c] t (0, 0)) ∧ w1.heap[w.heap.size + 1]? = some (.cells #[a', b', c'] t' (0, 0)) ∧ w.heap.size + 1 + 1 ≤ w1.heap.size := by
  have hs := Below.size h
  rw [World.size_alloc, World.size_alloc] at hs
  refine ⟨?_, ?_, hs⟩
  · rw [Below.block h _ (by omega), Below.heap_alloc _ _ _ (by simp)]; exact heap_alloc_new w _
  · rw [Below.block h _ (by omega)]
    have := heap_alloc_new (w.alloc (.cells #[a, b, c] t)) (.cells #[a', b', c'] t')
    rwa [World.size_alloc] at this
theorem B2.facts (h : B2 w (.cells #[a, b, c] t (0, 0)) (.cells #[a', b', c'] t' (0, 0)) w1) : (w1.cell? ⟨w.heap.size, 0, none⟩ = some a ∧ w1.cell? ⟨w.heap.size, 1, none⟩ = some b ∧ w1.cell? ⟨w.heap.size, 2, none⟩ = some c) ∧ (w1.cell? ⟨w.heap.size + 1, 0, none⟩ = some a' ∧ w1.cell? ⟨w.heap.size + 1, 1, none⟩ = some b' ∧ w1.cell? ⟨w.heap.size + 1, 2, none⟩ = some c') ∧ (∀ j, w1.frozen? ⟨w.heap.size, j, none⟩ = false) ∧ ∀ j, w1.frozen? ⟨w.heap.size + 1, j, none⟩ = false := by
  obtain ⟨h1, h2, _⟩ := h.blocks
  refine ⟨⟨?_, ?_, ?_⟩, ⟨?_, ?_, ?_⟩, fun j => block_frozen h1 j, fun j => block_frozen h2 j⟩ <;> first | (rw [block_cell h1]; rfl) | (rw [block_cell h2]; rfl)
/- A cell of the first box is written, then all of the second. -/
theorem B2.done (h : B2 w (.cells #[a, b, c] t (0, 0)) (.cells #[a', b', c'] t' (0, 0)) w1) (k : Nat) (v x y z : Value) :
    (put3 (w1.setCell ⟨w.heap.size, k, none⟩ v) (w.heap.size + 1) x y z).cell? ⟨w.heap.size + 1, 0, none⟩ = some x ∧ (put3 (w1.setCell ⟨w.heap.size, k, none⟩ v) (w.heap.size + 1) x y z).cell? ⟨w.heap.size + 1, 1, none⟩ = some y ∧ (put3 (w1.setCell ⟨w.heap.size, k, none⟩ v) (w.heap.size + 1) x y z).cell? ⟨w.heap.size + 1, 2, none⟩ = some z ∧
    Below w.heap.size w (put3 (w1.setCell ⟨w.heap.size, k, none⟩ v) (w.heap.size + 1) x y z) ∧
    ∀ (base : Nat) (u : Value) (nn : Nat) (xs : List Value) (e : TypeId), w.heap.size + 1 + 1 ≤ base → w1.ownsRow base e 2 u nn xs → (put3 (w1.setCell ⟨w.heap.size, k, none⟩ v) (w.heap.size + 1) x y z).ownsRow w.heap.size e 2 u nn xs := by
  obtain ⟨h1, h2, hs⟩ := h.blocks
  have hl := h.low
  have ho (j : Nat) (hj : j ≠ w.heap.size) : (w1.setCell ⟨w.heap.size, k, none⟩ v).heap[j]? = w1.heap[j]? := heap_setCell_other _ ⟨w.heap.size, k, none⟩ _ _ hj
  have h3 : (w1.setCell ⟨w.heap.size, k, none⟩ v).heap[w.heap.size + 1]? = some (.cells #[a', b', c'] t' (0, 0)) := by rw [ho _ (by omega)]; exact h2
  obtain ⟨p0, p1, p2⟩ := put3_cells h3 x y z
  refine ⟨p0, p1, p2, ⟨hl.os, hl.tape, hl.output, by rw [put3_size]; simpa using hl.size, fun j hj => ?_⟩, fun base u nn xs e hbs hu => ownsRow_less (ownsRow_same hu fun j hj => ?_) (by omega)⟩
  · rw [put3_other _ _ _ _ (by omega), ho _ (by omega)]; exact hl.block j hj
  · have := (hu.lt j hj).1
    rw [put3_other _ _ _ _ (by omega), ho _ (by omega)]
end
section
variable {w w1 : World} {a b c : Value} {t : TypeId}
/- All of a box is written. -/
theorem Bx.done (h : Bx w (.cells #[a, b, c] t (0, 0)) w1) (x y z : Value) :
    (put3 w1 w.heap.size x y z).cell? ⟨w.heap.size, 0, none⟩ = some x ∧ (put3 w1 w.heap.size x y z).cell? ⟨w.heap.size, 1, none⟩ = some y ∧ (put3 w1 w.heap.size x y z).cell? ⟨w.heap.size, 2, none⟩ = some z ∧
    Below w.heap.size w (put3 w1 w.heap.size x y z) ∧
    (∀ (base k : Nat) (u : Value) (nn : Nat) (xs : List Value) (e : TypeId), w.heap.size + 1 ≤ base → w1.ownsRow base e k u nn xs → (put3 w1 w.heap.size x y z).ownsRow w.heap.size e k u nn xs) ∧
    w1.cell? ⟨w.heap.size, 0, none⟩ = some a ∧ w1.cell? ⟨w.heap.size, 1, none⟩ = some b ∧ w1.cell? ⟨w.heap.size, 2, none⟩ = some c ∧ ∀ j, w1.frozen? ⟨w.heap.size, j, none⟩ = false := by
  have hh := h.heap
  have hl := h.low
  obtain ⟨p0, p1, p2⟩ := put3_cells hh x y z
  refine ⟨p0, p1, p2, ⟨hl.os, hl.tape, hl.output, by rw [put3_size]; exact hl.size, fun j hj => ?_⟩, fun base k u nn xs e hbs hu => ownsRow_less (ownsRow_same hu fun j hj => ?_) (by omega), by rw [block_cell hh]; rfl, by rw [block_cell hh]; rfl, by rw [block_cell hh]; rfl, fun j => block_frozen hh j⟩
  · rw [put3_other _ _ _ _ (by omega)]; exact hl.block j hj
  · have := (hu.lt j hj).1
    rw [put3_other _ _ _ _ (by omega)]
end
theorem vclone_any {base : Nat} {w : World} {v : Value} {s : VS} (h : StOwn base 82 w v s) (hs : s.rows.length ≤ 1000) :
    Calls Tryd.prog 39 #[v] w fun e w' => ∃ v', e = .returned v' ∧ StOwn w.heap.size 82 w' v' s ∧ Below w.heap.size w w' := by
  obtain ⟨k0, rfl, hr⟩ := h
  obtain ⟨a, c, rfl, _⟩ := ownsRow_slice hr
  obtain ⟨kd, n, rows⟩ := s
  dsimp only at *
  have HCL := hide (fun (w1 : World) (hb : Below w.heap.size w w1) => rclone_any (ownsRow_below hr hb) hs)
  have HST := hide (B2.start w (.cells #[.int .i64 kd, .int .i64 n, .slice a rows.length c] 47) (.cells #[.int .i64 0, .int .i64 0, .slice none 0 0] 47))
  clear hr
  go_enter Tryd.func39, Tryd.ntmps39
  go_wp2_with fail
  refine (unhide HCL _ (unhide HST).low).mono ?_
  rintro e w2 ⟨v', rfl, ho, hb⟩
  obtain ⟨va, vc, rfl, _⟩ := ownsRow_slice ho
  have hst : B2 w _ _ w2 := Below.trans (unhide HST) (hb.mono (by simp))
  obtain ⟨⟨c0, c1, c2⟩, ⟨d0, d1, d2⟩, f0, f1⟩ := hst.facts
  obtain ⟨z0, z1, z2, zl, zo⟩ := hst.done 2 (.slice va rows.length vc) (.int .i64 kd) (.int .i64 n) (.slice va rows.length vc)
  have ZO := hide (zo _ _ _ _ _ (by simp) ho)
  unfold put3 at z0 z1 z2 zl ZO
  have ZL := hide zl
  clear hst ho hb zo zl HCL HST
  go_wp2_with fail
  exact bodyPost_ret (v := .agg #[.int .i64 kd, .int .i64 n, .slice va rows.length vc]) (by simp [results, Tryd.results39, go_sem, z0, z1, z2]) rfl ⟨_, rfl, ⟨_, rfl, unhide ZO⟩, unhide ZL⟩
end Go.Proofs.YteaiidcconggcaaDoor
/- The contracts of the small functions about answers. -/
namespace Go.Proofs.YteaiidcconggcaaDoor
open Go.RowKit
set_option linter.unusedVariables false
set_option maxRecDepth 100000

theorem ayes_any {w : World} (t : List UInt8) : Calls Tryd.prog 71 #[.string (S t)] w fun e w' => e = .returned (mrV ⟨1, t, 0⟩) ∧ Below w.heap.size w w' := by
  unfold mrV
  go_enter Tryd.func71, Tryd.ntmps71
  go_wp2_with fail
  exact bodyPost_ret (v := .agg #[.int .i64 1, .string (S t), .int .i64 0]) (by simp [results, Tryd.results71, go_sem]) rfl ⟨rfl, under_box _⟩
theorem awhether_any {w : World} (b : Bool) : Calls Tryd.prog 74 #[.bool b] w fun e w' => e = .returned (mrV (okR b)) ∧ Below w.heap.size w w' := by
  unfold mrV okR
  have e0 : (⟨#[]⟩ : ByteArray) = S [] := rfl
  cases b
  · go_enter Tryd.func74, Tryd.ntmps74
    go_wp2_with fail
    exact bodyPost_ret (v := .agg #[.int .i64 2, .string (S []), .int .i64 0]) (by simp [results, Tryd.results74, go_sem]) rfl ⟨rfl, under_box _⟩
  · go_enter Tryd.func74, Tryd.ntmps74
    go_wp2_with fail
    exact bodyPost_ret (v := .agg #[.int .i64 1, .string (S []), .int .i64 0]) (by simp [results, Tryd.results74, go_sem]) rfl ⟨rfl, under_box _⟩
theorem aonly_any {w : World} (r : MR) : Calls Tryd.prog 70 #[mrV r] w fun e w' => ∃ v', e = .returned v' ∧ Row3 w' v' [r] ∧ Below w.heap.size w w' := by
  obtain ⟨k, t, n⟩ := r
  unfold mrV
  go_enter Tryd.func70, Tryd.ntmps70
  go_wp2_with fail
  go_ret
  refine ⟨_, rfl, ?_, under_two _ _ _⟩
  have := Row3.new (w.alloc (.cells #[.int .i64 k, .string (S t), .int .i64 n] 26)) ⟨k, t, n⟩ 26
  rwa [World.size_alloc] at this
theorem afound_any {w : World} (t : List UInt8) (b : Bool) : Calls Tryd.prog 72 #[.string (S t), .bool b] w fun e w' => e = .returned (mrV (if b then ⟨1, t, 0⟩ else okR false)) ∧ Below w.heap.size w w' := by
  cases b
  · have HW := hide (fun (w1 : World) => awhether_any (w := w1) false)
    have HST := hide (Bx.start w (.cells #[.int .i64 0, .string ⟨#[]⟩, .int .i64 0] 26))
    rw [if_neg (by simp)]
    rw [show mrV (okR false) = .agg #[.int .i64 2, .string (S []), .int .i64 0] from rfl] at *
    go_enter Tryd.func72, Tryd.ntmps72
    go_wp2_with fail
    refine (unhide HW _).mono ?_
    rintro e w1 ⟨rfl, hb⟩
    obtain ⟨z0, z1, z2, zl, _, c0, c1, c2, f0⟩ := (Bx.below (unhide HST) hb).done (.int .i64 2) (.string (S [])) (.int .i64 0)
    unfold put3 at z0 z1 z2 zl
    have ZL := hide zl
    clear hb zl HST
    go_wp2_with fail
    exact bodyPost_ret (v := .agg #[.int .i64 2, .string (S []), .int .i64 0]) (by simp [results, Tryd.results72, go_sem, z0, z1, z2]) rfl ⟨rfl, unhide ZL⟩
  · have HY := hide (fun (w1 : World) => ayes_any (w := w1) t)
    rw [if_pos rfl]
    have HST := hide (Bx.start w (.cells #[.int .i64 0, .string ⟨#[]⟩, .int .i64 0] 26))
    unfold mrV at *
    go_enter Tryd.func72, Tryd.ntmps72
    go_wp2_with fail
    refine (unhide HY _).mono ?_
    rintro e w1 ⟨rfl, hb⟩
    obtain ⟨z0, z1, z2, zl, _, c0, c1, c2, f0⟩ := (Bx.below (unhide HST) hb).done (.int .i64 1) (.string (S t)) (.int .i64 0)
    unfold put3 at z0 z1 z2 zl
    have ZL := hide zl
    clear hb zl HST
    go_wp2_with fail
    exact bodyPost_ret (v := .agg #[.int .i64 1, .string (S t), .int .i64 0]) (by simp [results, Tryd.results72, go_sem, z0, z1, z2]) rfl ⟨rfl, unhide ZL⟩
theorem afront_any {w : World} {v : Value} {s : VS} (h : StAt w v s) : Calls Tryd.prog 69 #[v] w fun e w' => e = .returned (.tuple #[.string (S (s.key 0)), .bool (decide (s.rows.length ≠ 0))]) ∧ Below w.heap.size w w' := by
  obtain ⟨k0, rfl, hr⟩ := h
  obtain ⟨a, c, rfl, hc, hm⟩ := hr.shape
  unfold maxLen at hm
  obtain ⟨kd, n, rows⟩ := s
  unfold VS.key
  dsimp only at *
  by_cases hl : rows.length = 0
  · have e : rows = [] := List.eq_nil_of_length_eq_zero hl
    subst e
    have e0 : S ([] : List UInt8) = ⟨#[]⟩ := rfl
    clear hr
    go_enter Tryd.func69, Tryd.ntmps69
    go_wp2_with fail
    exact bodyPost_ret (v := .tuple #[.string ⟨#[]⟩, .bool false]) (by simp [results, Tryd.results69, go_sem]) rfl ⟨rfl, under_box _⟩
  · obtain ⟨b, off, rfl, hbl, e1, e2⟩ := hr.at 0 (by omega)
    have hg : rows.getD 0 ([], []) = rows[0]'(by omega) := by simp [List.getD, show 0 < rows.length by omega]
    rw [hg, decide_eq_true (by simpa using hl)]
    generalize rows[0]'(by omega) = r at *
    obtain ⟨x, y⟩ := r
    dsimp only at *
    have hn : (((rows.length : Nat) : Int) == 0) = false := by rw [beq_eq_false_iff_ne]; omega
    have hi1 : (0 : Int) < ((rows.length : Nat) : Int) := by omega
    have hne : w.heap.size ≠ b := by omega
    rw [Nat.zero_mul, Nat.add_zero] at e1
    clear hr hl
    go_enter Tryd.func69, Tryd.ntmps69
    go_wp2_with fail
    exact bodyPost_ret (v := .tuple #[.string (S x), .bool true]) (by simp [results, Tryd.results69, go_sem]) rfl ⟨rfl, under_box _⟩
theorem aisThere_any {w : World} {v : Value} {s : VS} (h : StAt w v s) (key : List UInt8) : Calls Tryd.prog 75 #[v, .string (S key)] w fun e w' => e = .returned (.bool (s.has key)) ∧ Below w.heap.size w w' := by
  have HF := hide (fun (w1 : World) (hb : Below w.heap.size w w1) => vfind_any (h.later hb) key)
  generalize (if s.has key = true then ((hits key s.rows : Nat) : Int) else 0) = R1 at *
  generalize s.has key = R2 at *
  obtain ⟨k0, rfl, hr⟩ := h
  obtain ⟨a, c, rfl, hc, hm⟩ := hr.shape
  clear hr
  go_enter Tryd.func75, Tryd.ntmps75
  go_wp2_with fail
  refine (unhide HF _ (by first | exact under_box _ | exact Below.refl _ _)).mono ?_
  rintro e w1 ⟨rfl, hb⟩
  have HB := hide hb
  clear hb
  go_wp2_with fail
  go_ret
  exact ⟨rfl, (by first | exact (under_box _).trans ((unhide HB).mono (by simp)) | exact unhide HB)⟩
end Go.Proofs.YteaiidcconggcaaDoor
/- The contracts of adt's takes, of the document's taken and ok. -/
namespace Go.Proofs.YteaiidcconggcaaDoor
open Go.RowKit
set_option linter.unusedVariables false
set_option maxRecDepth 100000

theorem under_mres : Tryd.prog.underlying 103 = some (.slice 26) := by kernel_rfl
theorem info_mres : (Tryd.prog.info? 26).map (fun i => (i.zero, i.size, i.bytes)) = some (some (.agg #[.int .i64 0, .string ⟨#[]⟩, .int .i64 0]), 3, 32) := by kernel_rfl
theorem under_rres : Tryd.prog.underlying 49 = some (.slice 30) := by kernel_rfl
theorem info_rres : (Tryd.prog.info? 30).map (fun i => (i.zero, i.size, i.bytes)) = some (some (.agg #[.int .i64 0, .string ⟨#[]⟩, .int .i64 0]), 3, 32) := by kernel_rfl
theorem triple_new (w : World) (a b c : Value) (t : TypeId) {g : Nat} (hg : w.heap.size = g) : ∀ j u, [a, b, c][j]? = some u → (w.alloc (.cells #[a, b, c] t)).cell? ((⟨g, 0, none⟩ : Addr).add j) = some u := by
  subst hg
  intro j u hu
  rw [plain_add, Nat.zero_add, block_cell (heap_alloc_new w _)]
  match j, hu with
  | 0, hu => exact hu
  | 1, hu => exact hu
  | 2, hu => exact hu
  | j + 3, hu => simp at hu
theorem own3_none (w : World) (base : Nat) (e : TypeId) (hb : base ≤ w.heap.size) {g : Nat} (hg : w.heap.size = g) : (w.alloc (.cells #[] e)).ownsRow base e 3 (.slice (some ⟨g, 0, none⟩) 0 0) 0 [] := by
  subst hg
  exact ⟨rfl, Or.inr ⟨w.heap.size, 0, #[], rfl, hb, heap_alloc_new w _, Nat.le_refl _, Nat.zero_le _, rfl, rfl⟩⟩

/- As tk, but of all but a Take the first alone. -/
def tkO (s : VS) (z : Bool) : Nat → List MR
  | 0 => []
  | k + 1 => tkO s z k ++ (if k = 0 ∨ z = true ∧ s.key k ≠ s.key (k - 1) then [⟨1, s.key k, 0⟩] else [])
theorem tkO_next (s : VS) (z : Bool) (k : Nat) : tkO s z (k + 1) = tkO s z k ++ (if k = 0 ∨ z = true ∧ s.key k ≠ s.key (k - 1) then [⟨1, s.key k, 0⟩] else []) := rfl
theorem tkO_len (s : VS) (z : Bool) : ∀ k, (tkO s z k).length ≤ k
  | 0 => Nat.le_refl _
  | k + 1 => by
    have := tkO_len s z k
    rw [tkO_next]
    split <;> simp <;> omega
def takeO (s : VS) (z : Bool) : List MR := if s.rows.length = 0 then [okR false] else tkO s z s.rows.length
theorem takeO_len (s : VS) (z : Bool) (h : ¬ s.rows.length = 0) : takeO s z = tkO s z s.rows.length := by unfold takeO; rw [if_neg h]
theorem takeO_nil (s : VS) (z : Bool) (h : s.rows.length = 0) : takeO s z = [okR false] := by unfold takeO; rw [if_pos h]
theorem tkO_true (s : VS) : ∀ k, tkO s true k = tk s k
  | 0 => rfl
  | k + 1 => by
    rw [tkO_next, tkO_true s k]
    conv => rhs; unfold tk
    congr 1
    by_cases h : k = 0 ∨ s.key k ≠ s.key (k - 1)
    · rw [if_pos h, if_pos (h.imp id fun h => ⟨rfl, h⟩)]
    · rw [if_neg h, if_neg (fun h2 => h (h2.imp id And.right))]
theorem tkO_false (s : VS) : ∀ k, tkO s false (k + 1) = [⟨1, s.key 0, 0⟩]
  | 0 => rfl
  | k + 1 => by
    rw [tkO_next, tkO_false s k, if_neg (by simp)]
    rfl
theorem takeO_true (s : VS) : takeO s true = takes s := by unfold takeO takes; rw [tkO_true]
theorem takeO_false (s : VS) : takeO s false = [frontR s] := by
  unfold takeO frontR
  by_cases h : s.rows.length = 0
  · rw [if_pos h, if_pos h]
  · rw [if_neg h, if_neg h]
    obtain ⟨k, hk⟩ : ∃ k, s.rows.length = k + 1 := ⟨s.rows.length - 1, by omega⟩
    rw [hk, tkO_false]
theorem key_get (s : VS) (k : Nat) (hk : k < s.rows.length) : (s.rows[k]'hk).1 = s.key k := by simp [VS.key, List.getD, hk]

set_option maxHeartbeats 3200000 in
theorem atakes_any {w : World} {v : Value} {s : VS} (h : StAt w v s) (hs : s.rows.length ≤ 1000) :
    Calls Tryd.prog 68 #[v] w fun e w' => ∃ v', e = .returned v' ∧ Row3 w' v' (takeO s true) ∧ Below w.heap.size w w' := by
  obtain ⟨i0, hi, hz0, hz1, hz2⟩ := info_parts info_mres
  have HNO := hide (fun (w1 : World) => awhether_any (w := w1) false)
  have HON := hide (fun (w1 : World) => aonly_any (w := w1) (okR false))
  have HYE : Hid (∀ (w1 : World) (t : List UInt8), Calls Tryd.prog 71 #[.string (S t)] w1 fun e w' => e = .returned (.agg #[.int .i64 1, .string (S t), .int .i64 0]) ∧ Below w1.heap.size w1 w') := fun w1 t => ayes_any t
  obtain ⟨k0, rfl, hr⟩ := h
  obtain ⟨a, c, rfl, hc, hm⟩ := hr.shape
  unfold maxLen at hm
  have HK := hide (fun (k : Nat) => tkO_next s true k)
  have HLN := hide (fun (k : Nat) => tkO_len s true k)
  have HGE := hide (fun (k : Nat) (hk : k < s.rows.length) => key_get s k hk)
  have HTO := hide (takeO_len s true)
  have HT0 := hide (takeO_nil s true)
  have HST := hide (Bx.start w (.cells #[.int .i64 s.kind, .int .i64 s.n, .slice a s.rows.length c] 47))
  generalize takeO s true = T at *
  obtain ⟨tf, htf⟩ : ∃ tf : Nat → List MR, tkO s true = tf := ⟨_, rfl⟩
  rw [htf] at HK HLN HTO
  have hT00 : tf 0 = [] := by rw [← htf]; rfl
  clear htf
  obtain ⟨ky, hky⟩ : ∃ ky : Nat → List UInt8, s.key = ky := ⟨_, rfl⟩
  rw [hky] at HK HGE
  clear hky
  obtain ⟨kd, n, rows⟩ := s
  dsimp only at *
  have HROW := hide hr
  clear hr
  by_cases hl : rows.length = 0
  · have hT := unhide HT0 hl
    subst hT
    have hn : (((rows.length : Nat) : Int) == 0) = true := by rw [beq_iff_eq]; omega
    clear HK HLN HGE HTO HT0 hT00 HYE hl
    rw [show mrV (okR false) = .agg #[.int .i64 2, .string (S []), .int .i64 0] from rfl] at *
    go_enter Tryd.func68, Tryd.ntmps68
    go_wp2_with fail
    refine (unhide HNO _).mono ?_
    rintro e w1 ⟨rfl, hb1⟩
    have hx1 := Bx.below (unhide HST) hb1
    have HX1 := hide hx1
    clear hx1 hb1 HST HNO
    go_wp2_with fail
    refine (unhide HON _).mono ?_
    rintro e w2 ⟨v2, rfl, h2, hb2⟩
    have HR := hide (And.intro h2 (Bx.low (Bx.below (unhide HX1) hb2)))
    clear h2 hb2 HX1 HON
    go_wp2_with fail
    go_ret
    exact ⟨_, rfl, unhide HR⟩
  · have hn : (((rows.length : Nat) : Int) == 0) = false := by rw [beq_eq_false_iff_ne]; omega
    have hT := unhide HTO hl
    subst hT
    clear HTO HT0 hl HNO HON
    go_enter Tryd.func68, Tryd.ntmps68
    go_wp2_with fail
    go_loopw [3, 15] (fun l i wr => ∃ k : Nat, k ≤ rows.length ∧ i = .int .i64 (k : Int) ∧ wr.ownsRow (w.heap.size + 1) 26 3 l (tf k).length (E3 (tf k)) ∧ Bx w (.cells #[.int .i64 kd, .int .i64 n, .slice a rows.length c] 47 (0, 0)) wr) (fun _ i _ => rows.length - (intOf i).toNat)
    case atStart => exact ⟨0, Nat.zero_le _, rfl, by rw [hT00]; exact World.ownsRow_nil _ _ _ _, unhide HST⟩
    case round =>
      obtain ⟨k, hk, rfl, hown, hbx⟩ := hrel
      obtain ⟨oa, oc, rfl, _⟩ := ownsRow_slice hown
      have hlow := hbx.low
      have HOW := hide hown
      have HBX := hide hbx
      by_cases hlt : k < rows.length
      · obtain ⟨b, off, rfl, hbl, e1, e2⟩ := (unhide HROW).at k hlt
        rw [← hlow.cell (p := ⟨b, off + k * 2, none⟩) hbl] at e1
        rw [← hlow.cell (p := ⟨b, off + k * 2 + 1, none⟩) hbl] at e2
        rw [unhide HGE k hlt] at e1
        have HPR : Hid (0 < k → ∀ o, (wr.alloc o).cell? ⟨b, off + (k - 1) * 2, none⟩ = some (.string (S (ky (k - 1))))) := fun h0 o => by
          obtain ⟨b', off', e', _, g1, _⟩ := (unhide HROW).at (k - 1) (by omega)
          cases e'
          rw [unhide HGE (k - 1) (by omega)] at g1
          rw [(under_box o).cell (p := ⟨b, off + (k - 1) * 2, none⟩) (by have := hlow.size; show b < _; omega), hlow.cell (p := ⟨b, off + (k - 1) * 2, none⟩) hbl]
          exact g1
        have hne : wr.heap.size ≠ b := by have := hlow.size; omega
        have hi0 : (0 : Int) ≤ (k : Int) := by omega
        have hi1 : (k : Int) < ((rows.length : Nat) : Int) := by omega
        have hs2 : ∀ o, (wr.alloc o).cell? ⟨w.heap.size, 2, none⟩ = some (.slice (some ⟨b, off, none⟩) rows.length c) := fun o => (Bx.cells3 (w0 := w) rfl).2.2 _ ((unhide HBX).alloc o)
        have HKN := hide (unhide HK k)
        have HLK := hide (unhide HLN k)
        obtain ⟨y, hy⟩ : ∃ y, (rows[k]'hlt).2 = y := ⟨_, rfl⟩
        rw [hy] at e2
        clear hown hbx hlow hy HK HLN
        obtain ⟨x, hx⟩ : ∃ x, ky k = x := ⟨_, rfl⟩
        rw [hx] at e1 HKN
        clear hx HGE
        rcases Nat.eq_zero_or_pos k with h0 | h0
        · have z0 : ((k : Int) == 0) = true := by rw [beq_iff_eq]; omega
          have HKN2 : Hid (tf (k + 1) = tf k ++ [⟨1, x, 0⟩]) := by show tf (k + 1) = _; rw [unhide HKN, if_pos (Or.inl h0)]
          clear HKN HPR h0
          go_wp2_with fail
          go_quiet (fail)
          have HQ : ∀ q, Hid (Bx w (.cells #[.int .i64 kd, .int .i64 n, .slice (some ⟨b, off, none⟩) rows.length c] 47 (0, 0)) ((wr.alloc (.cells #[.string (S x), .string (S y)] 82)).drewN q)) := fun q => Below.trans ((unhide HBX).alloc _) (drewN_low _ q)
          have HOQ : ∀ q, Hid (((wr.alloc (.cells #[.string (S x), .string (S y)] 82)).drewN q).ownsRow (w.heap.size + 1) 26 3 (.slice oa (tf k).length oc) (tf k).length (E3 (tf k))) := fun q => ownsRow_below (unhide HOW) ((under_box _).trans (drewN_low _ q))
          go_wp2_with fail
          refine (unhide HYE _ x).mono ?_
          rintro e wa ⟨rfl, hba⟩
          have hoa := ownsRow_below (unhide (HOQ _)) hba
          have hxa := Bx.below (unhide (HQ _)) hba
          have HOA := hide hoa
          have HXA := hide hxa
          have HSZ := hide hxa.size
          clear hoa hxa hba HOQ HQ HYE
          go_wp2_with (first | (at_builtin; refine wpList_append_fresh rfl _ _ 103 rfl (w.heap.size + 1) 26 i0 (.agg #[.int .i64 0, .string ⟨#[]⟩, .int .i64 0]) 3 32 under_mres hi hz0 hz1 hz2 rfl (by decide) _ _ _ rfl ((unhide HOA).alloc _) ⟨wa.heap.size, 0, none⟩ 1 1 [.int .i64 1, .string (S x), .int .i64 0] rfl rfl (triple_new wa _ _ _ _ rfl) ?c2 ?c3 ?c4 ?c5 ?_) | fail)
          case c2 => intro u hu; simp at hu; rcases hu with rfl | rfl | rfl <;> rfl
          case c3 => have := unhide HLK; unfold maxLen; omega
          case c4 => have := unhide HLK; omega
          case c5 => have := unhide HSZ; simp; omega
          intro v' w2 hown' hgrow _
          obtain ⟨va, vc, rfl, _⟩ := ownsRow_slice hown'
          have hb2 : Below (w.heap.size + 1) wa w2 := ((Below.refl (w.heap.size + 1) wa).alloc (unhide HSZ) _).grown hgrow (by have := unhide HSZ; simp; omega) (fun j hj => ((unhide HOA).lt j hj).1)
          have HB2 : Hid (Bx w (.cells #[.int .i64 kd, .int .i64 n, .slice (some ⟨b, off, none⟩) rows.length c] 47 (0, 0)) w2) := Below.trans (unhide HXA) hb2
          have HN : Hid (w2.ownsRow (w.heap.size + 1) 26 3 (.slice va ((tf k).length + 1) vc) (tf (k + 1)).length (E3 (tf (k + 1)))) := by
            show World.ownsRow _ _ _ _ _ _ _
            rw [unhide HKN2, List.length_append, E3_append]
            exact hown'
          clear hown' hgrow hb2
          go_wp2_with fail
          go_roundw
          case rel => exact ⟨k + 1, by omega, by go_num, unhide HN, unhide HB2⟩
          case measure => simp [intOf]; omega
        · have z0 : ((k : Int) == 0) = false := by rw [beq_eq_false_iff_ne]; omega
          have hw1 : IntKind.i64.wrap ((k : Int) - 1) = ((k - 1 : Nat) : Int) := by rw [IntKind.wrap_i64]; omega
          have hi2 : (0 : Int) ≤ ((k - 1 : Nat) : Int) := by omega
          have hi3 : ((k - 1 : Nat) : Int) < ((rows.length : Nat) : Int) := by omega
          have hpr := unhide HPR h0
          obtain ⟨p, hp⟩ : ∃ p, ky (k - 1) = p := ⟨_, rfl⟩
          rw [hp] at hpr HKN
          have s1 := S_eq x p
          by_cases hxp : x = p
          · rw [decide_eq_true hxp] at s1
            have HKN2 : Hid (tf (k + 1) = tf k) := by show tf (k + 1) = _; rw [unhide HKN, if_neg (by simp [hxp]; omega), List.append_nil]
            clear HKN HPR h0 hp hxp
            go_wp2_with fail
            go_quiet (fail)
            go_wp2_with fail
            go_roundw
            case rel => exact ⟨k + 1, by omega, by go_num, by rw [unhide HKN2]; exact (ownsRow_below (unhide HOW) ((under_box _).trans (drewN_low _ _))), Below.trans ((unhide HBX).alloc _) (drewN_low _ _)⟩
            case measure => simp [intOf]; omega
          · rw [decide_eq_false hxp] at s1
            have HKN2 : Hid (tf (k + 1) = tf k ++ [⟨1, x, 0⟩]) := by show tf (k + 1) = _; rw [unhide HKN, if_pos (Or.inr (by simp [hxp]))]
            clear HKN HPR h0 hp hxp
            go_wp2_with fail
            go_quiet (fail)
            have HQ : ∀ q, Hid (Bx w (.cells #[.int .i64 kd, .int .i64 n, .slice (some ⟨b, off, none⟩) rows.length c] 47 (0, 0)) ((wr.alloc (.cells #[.string (S x), .string (S y)] 82)).drewN q)) := fun q => Below.trans ((unhide HBX).alloc _) (drewN_low _ q)
            have HOQ : ∀ q, Hid (((wr.alloc (.cells #[.string (S x), .string (S y)] 82)).drewN q).ownsRow (w.heap.size + 1) 26 3 (.slice oa (tf k).length oc) (tf k).length (E3 (tf k))) := fun q => ownsRow_below (unhide HOW) ((under_box _).trans (drewN_low _ q))
            go_wp2_with fail
            refine (unhide HYE _ x).mono ?_
            rintro e wa ⟨rfl, hba⟩
            have hoa := ownsRow_below (unhide (HOQ _)) hba
            have hxa := Bx.below (unhide (HQ _)) hba
            have HOA := hide hoa
            have HXA := hide hxa
            have HSZ := hide hxa.size
            clear hoa hxa hba HOQ HQ HYE
            go_wp2_with (first | (at_builtin; refine wpList_append_fresh rfl _ _ 103 rfl (w.heap.size + 1) 26 i0 (.agg #[.int .i64 0, .string ⟨#[]⟩, .int .i64 0]) 3 32 under_mres hi hz0 hz1 hz2 rfl (by decide) _ _ _ rfl ((unhide HOA).alloc _) ⟨wa.heap.size, 0, none⟩ 1 1 [.int .i64 1, .string (S x), .int .i64 0] rfl rfl (triple_new wa _ _ _ _ rfl) ?c2 ?c3 ?c4 ?c5 ?_) | fail)
            case c2 => intro u hu; simp at hu; rcases hu with rfl | rfl | rfl <;> rfl
            case c3 => have := unhide HLK; unfold maxLen; omega
            case c4 => have := unhide HLK; omega
            case c5 => have := unhide HSZ; simp; omega
            intro v' w2 hown' hgrow _
            obtain ⟨va, vc, rfl, _⟩ := ownsRow_slice hown'
            have hb2 : Below (w.heap.size + 1) wa w2 := ((Below.refl (w.heap.size + 1) wa).alloc (unhide HSZ) _).grown hgrow (by have := unhide HSZ; simp; omega) (fun j hj => ((unhide HOA).lt j hj).1)
            have HB2 : Hid (Bx w (.cells #[.int .i64 kd, .int .i64 n, .slice (some ⟨b, off, none⟩) rows.length c] 47 (0, 0)) w2) := Below.trans (unhide HXA) hb2
            have HN : Hid (w2.ownsRow (w.heap.size + 1) 26 3 (.slice va ((tf k).length + 1) vc) (tf (k + 1)).length (E3 (tf (k + 1)))) := by
              show World.ownsRow _ _ _ _ _ _ _
              rw [unhide HKN2, List.length_append, E3_append]
              exact hown'
            clear hown' hgrow hb2
            go_wp2_with fail
            go_roundw
            case rel => exact ⟨k + 1, by omega, by go_num, unhide HN, unhide HB2⟩
            case measure => simp [intOf]; omega
      · have hkn : k = rows.length := by omega
        subst hkn
        have HR := hide (And.intro (Row3.of_own hown) hlow)
        clear hown hlow hbx HOW HBX HK HLN HGE
        go_wp2_with fail
        go_ret
        exact ⟨_, rfl, unhide HR⟩
end Go.Proofs.YteaiidcconggcaaDoor
/- The contracts of the document's taken and ok. -/
namespace Go.Proofs.YteaiidcconggcaaDoor
open Go.RowKit
set_option linter.unusedVariables false
set_option maxRecDepth 100000

theorem rok_any {w : World} (b : Bool) : Calls Tryd.prog 34 #[.bool b] w fun e w' => ∃ v', e = .returned v' ∧ Row3 w' v' [okR b] ∧ Below w.heap.size w w' := by
  cases b
  · go_enter Tryd.func34, Tryd.ntmps34
    go_wp2_with fail
    go_ret
    exact ⟨_, rfl, Row3.new w ⟨2, [], 0⟩ _, under_box _⟩
  · go_enter Tryd.func34, Tryd.ntmps34
    go_wp2_with fail
    go_ret
    exact ⟨_, rfl, Row3.new w ⟨1, [], 0⟩ _, under_box _⟩

set_option maxHeartbeats 3200000 in
theorem rtaken_any {w : World} {v : Value} {s : VS} (h : StAt w v s) (hs : s.rows.length ≤ 1000) (z : Bool) :
    Calls Tryd.prog 35 #[v, .int .i64 (if z = true then 17 else 15)] w fun e w' => ∃ v', e = .returned v' ∧ Row3 w' v' (takeO s z) ∧ Below w.heap.size w w' := by
  obtain ⟨i0, hi, hz0, hz1, hz2⟩ := info_parts info_rres
  have HNO := hide (fun (w1 : World) => rok_any (w := w1) false)
  have hz : ((if z = true then (17 : Int) else 15) == 17) = z := by cases z <;> rfl
  generalize (if z = true then (17 : Int) else 15) = OP at *
  obtain ⟨k0, rfl, hr⟩ := h
  obtain ⟨a, c, rfl, hc, hm⟩ := hr.shape
  unfold maxLen at hm
  have HK := hide (fun (k : Nat) => tkO_next s z k)
  have HLN := hide (fun (k : Nat) => tkO_len s z k)
  have HGE := hide (fun (k : Nat) (hk : k < s.rows.length) => key_get s k hk)
  have HTO := hide (takeO_len s z)
  have HT0 := hide (takeO_nil s z)
  have HST := hide (Bx.start w (.cells #[.int .i64 s.kind, .int .i64 s.n, .slice a s.rows.length c] 38))
  generalize takeO s z = T at *
  obtain ⟨tf, htf⟩ : ∃ tf : Nat → List MR, tkO s z = tf := ⟨_, rfl⟩
  rw [htf] at HK HLN HTO
  have hT00 : tf 0 = [] := by rw [← htf]; rfl
  clear htf
  obtain ⟨ky, hky⟩ : ∃ ky : Nat → List UInt8, s.key = ky := ⟨_, rfl⟩
  rw [hky] at HK HGE
  clear hky
  obtain ⟨kd, n, rows⟩ := s
  dsimp only at *
  have HROW := hide hr
  clear hr
  by_cases hl : rows.length = 0
  · have hT := unhide HT0 hl
    subst hT
    have hn : (((rows.length : Nat) : Int) == 0) = true := by rw [beq_iff_eq]; omega
    clear HK HLN HGE HTO HT0 hT00 hl
    go_enter Tryd.func35, Tryd.ntmps35
    go_wp2_with fail
    refine (unhide HNO _).mono ?_
    rintro e w2 ⟨v2, rfl, h2, hb2⟩
    have HR := hide (And.intro h2 (Bx.low (Bx.below (unhide HST) hb2)))
    clear h2 hb2 HST HNO
    go_wp2_with fail
    go_ret
    exact ⟨_, rfl, unhide HR⟩
  · have hn : (((rows.length : Nat) : Int) == 0) = false := by rw [beq_eq_false_iff_ne]; omega
    have hT := unhide HTO hl
    subst hT
    clear HTO HT0 hl HNO
    go_enter Tryd.func35, Tryd.ntmps35
    go_wp2_with fail
    go_loopw [5, 17] (fun l i wr => ∃ k : Nat, k ≤ rows.length ∧ i = .int .i64 (k : Int) ∧ wr.ownsRow (w.heap.size + 1) 30 3 l (tf k).length (E3 (tf k)) ∧ Bx w (.cells #[.int .i64 kd, .int .i64 n, .slice a rows.length c] 38 (0, 0)) wr) (fun _ i _ => rows.length - (intOf i).toNat)
    case atStart => exact ⟨0, Nat.zero_le _, rfl, by rw [hT00]; exact own3_none _ _ _ (by simp) (by simp), (unhide HST).alloc _⟩
    case round =>
      obtain ⟨k, hk, rfl, hown, hbx⟩ := hrel
      obtain ⟨oa, oc, rfl, _⟩ := ownsRow_slice hown
      have hlow := hbx.low
      have HOW := hide hown
      have HBX := hide hbx
      by_cases hlt : k < rows.length
      · obtain ⟨b, off, rfl, hbl, e1, e2⟩ := (unhide HROW).at k hlt
        rw [← hlow.cell (p := ⟨b, off + k * 2, none⟩) hbl] at e1
        rw [← hlow.cell (p := ⟨b, off + k * 2 + 1, none⟩) hbl] at e2
        rw [unhide HGE k hlt] at e1
        have HPR : Hid (0 < k → ∀ o, (wr.alloc o).cell? ⟨b, off + (k - 1) * 2, none⟩ = some (.string (S (ky (k - 1))))) := fun h0 o => by
          obtain ⟨b', off', e', _, g1, _⟩ := (unhide HROW).at (k - 1) (by omega)
          cases e'
          rw [unhide HGE (k - 1) (by omega)] at g1
          rw [(under_box o).cell (p := ⟨b, off + (k - 1) * 2, none⟩) (by have := hlow.size; show b < _; omega), hlow.cell (p := ⟨b, off + (k - 1) * 2, none⟩) hbl]
          exact g1
        have hne : wr.heap.size ≠ b := by have := hlow.size; omega
        have hi0 : (0 : Int) ≤ (k : Int) := by omega
        have hi1 : (k : Int) < ((rows.length : Nat) : Int) := by omega
        have hs2 : ∀ o, (wr.alloc o).cell? ⟨w.heap.size, 2, none⟩ = some (.slice (some ⟨b, off, none⟩) rows.length c) := fun o => (Bx.cells3 (w0 := w) rfl).2.2 _ ((unhide HBX).alloc o)
        have HKN := hide (unhide HK k)
        have HLK := hide (unhide HLN k)
        obtain ⟨y, hy⟩ : ∃ y, (rows[k]'hlt).2 = y := ⟨_, rfl⟩
        rw [hy] at e2
        clear hown hbx hlow hy HK HLN
        obtain ⟨x, hx⟩ : ∃ x, ky k = x := ⟨_, rfl⟩
        rw [hx] at e1 HKN
        clear hx HGE
        rcases Nat.eq_zero_or_pos k with h0 | h0
        · have z0 : ((k : Int) == 0) = true := by rw [beq_iff_eq]; omega
          have HKN2 : Hid (tf (k + 1) = tf k ++ [⟨1, x, 0⟩]) := by show tf (k + 1) = _; rw [unhide HKN, if_pos (Or.inl h0)]
          clear HKN HPR h0
          go_wp2_with fail
          go_quiet (fail)
          have HQ : ∀ q, Hid (Bx w (.cells #[.int .i64 kd, .int .i64 n, .slice (some ⟨b, off, none⟩) rows.length c] 38 (0, 0)) ((wr.alloc (.cells #[.string (S x), .string (S y)] 77)).drewN q)) := fun q => Below.trans ((unhide HBX).alloc _) (drewN_low _ q)
          have HOQ : ∀ q, Hid (((wr.alloc (.cells #[.string (S x), .string (S y)] 77)).drewN q).ownsRow (w.heap.size + 1) 30 3 (.slice oa (tf k).length oc) (tf k).length (E3 (tf k))) := fun q => ownsRow_below (unhide HOW) ((under_box _).trans (drewN_low _ q))
          obtain ⟨wa, hwa⟩ : ∃ wa, (wr.alloc (.cells #[.string (S x), .string (S y)] 77)).drewN nq = wa := ⟨_, rfl⟩
          have HOA := hide (unhide (HOQ nq))
          have HXA := hide (unhide (HQ nq))
          have hcx : ((wr.alloc (.cells #[.string (S x), .string (S y)] 77)).drewN nq).cell? ⟨wr.heap.size, 0, none⟩ = some (.string (S x)) := by simp
          have hsq : ((wr.alloc (.cells #[.string (S x), .string (S y)] 77)).drewN nq).heap.size = wr.heap.size + 1 := by simp
          rw [hwa] at HOA HXA hcx hsq ⊢
          have HSZ := hide (unhide HXA).size
          clear HOQ HQ hwa
          go_wp2_with (first | (at_builtin; refine wpList_append_fresh rfl _ _ 49 rfl (w.heap.size + 1) 30 i0 (.agg #[.int .i64 0, .string ⟨#[]⟩, .int .i64 0]) 3 32 under_rres hi hz0 hz1 hz2 rfl (by decide) _ _ _ rfl ((unhide HOA).alloc _) ⟨wr.heap.size + 1, 0, none⟩ 1 1 [.int .i64 1, .string (S x), .int .i64 0] rfl rfl (triple_new wa _ _ _ _ hsq) ?c2 ?c3 ?c4 ?c5 ?_) | fail)
          case c2 => intro u hu; simp at hu; rcases hu with rfl | rfl | rfl <;> rfl
          case c3 => have := unhide HLK; unfold maxLen; omega
          case c4 => have := unhide HLK; omega
          case c5 => have := unhide HSZ; simp; omega
          intro v' w2 hown' hgrow _
          obtain ⟨va, vc, rfl, _⟩ := ownsRow_slice hown'
          have hb2 : Below (w.heap.size + 1) wa w2 := ((Below.refl (w.heap.size + 1) wa).alloc (unhide HSZ) _).grown hgrow (by have := unhide HSZ; simp; omega) (fun j hj => ((unhide HOA).lt j hj).1)
          have HB2 : Hid (Bx w (.cells #[.int .i64 kd, .int .i64 n, .slice (some ⟨b, off, none⟩) rows.length c] 38 (0, 0)) w2) := Below.trans (unhide HXA) hb2
          have HN : Hid (w2.ownsRow (w.heap.size + 1) 30 3 (.slice va ((tf k).length + 1) vc) (tf (k + 1)).length (E3 (tf (k + 1)))) := by
            show World.ownsRow _ _ _ _ _ _ _
            rw [unhide HKN2, List.length_append, E3_append]
            exact hown'
          clear hown' hgrow hb2
          go_wp2_with fail
          go_roundw
          case rel => exact ⟨k + 1, by omega, by go_num, unhide HN, unhide HB2⟩
          case measure => simp [intOf]; omega
        · have z0 : ((k : Int) == 0) = false := by rw [beq_eq_false_iff_ne]; omega
          have hw1 : IntKind.i64.wrap ((k : Int) - 1) = ((k - 1 : Nat) : Int) := by rw [IntKind.wrap_i64]; omega
          have hi2 : (0 : Int) ≤ ((k - 1 : Nat) : Int) := by omega
          have hi3 : ((k - 1 : Nat) : Int) < ((rows.length : Nat) : Int) := by omega
          have hpr := unhide HPR h0
          obtain ⟨p, hp⟩ : ∃ p, ky (k - 1) = p := ⟨_, rfl⟩
          rw [hp] at hpr HKN
          have s1 := S_eq x p
          cases z
          · have HKN2 : Hid (tf (k + 1) = tf k) := by show tf (k + 1) = _; rw [unhide HKN, if_neg (by simp; omega), List.append_nil]
            clear HKN HPR h0 hp hpr s1
            go_wp2_with fail
            go_quiet (fail)
            go_wp2_with fail
            go_roundw
            case rel => exact ⟨k + 1, by omega, by go_num, by rw [unhide HKN2]; exact (ownsRow_below (unhide HOW) ((under_box _).trans (drewN_low _ _))), Below.trans ((unhide HBX).alloc _) (drewN_low _ _)⟩
            case measure => simp [intOf]; omega
          · by_cases hxp : x = p
            · rw [decide_eq_true hxp] at s1
              have HKN2 : Hid (tf (k + 1) = tf k) := by show tf (k + 1) = _; rw [unhide HKN, if_neg (by simp [hxp]; omega), List.append_nil]
              clear HKN HPR h0 hp hxp
              go_wp2_with fail
              go_quiet (fail)
              go_wp2_with fail
              go_roundw
              case rel => exact ⟨k + 1, by omega, by go_num, by rw [unhide HKN2]; exact (ownsRow_below (unhide HOW) ((under_box _).trans (drewN_low _ _))), Below.trans ((unhide HBX).alloc _) (drewN_low _ _)⟩
              case measure => simp [intOf]; omega
            · rw [decide_eq_false hxp] at s1
              have HKN2 : Hid (tf (k + 1) = tf k ++ [⟨1, x, 0⟩]) := by show tf (k + 1) = _; rw [unhide HKN, if_pos (Or.inr (by simp [hxp]))]
              clear HKN HPR h0 hp hxp
              go_wp2_with fail
              go_quiet (fail)
              have HQ : ∀ q, Hid (Bx w (.cells #[.int .i64 kd, .int .i64 n, .slice (some ⟨b, off, none⟩) rows.length c] 38 (0, 0)) ((wr.alloc (.cells #[.string (S x), .string (S y)] 77)).drewN q)) := fun q => Below.trans ((unhide HBX).alloc _) (drewN_low _ q)
              have HOQ : ∀ q, Hid (((wr.alloc (.cells #[.string (S x), .string (S y)] 77)).drewN q).ownsRow (w.heap.size + 1) 30 3 (.slice oa (tf k).length oc) (tf k).length (E3 (tf k))) := fun q => ownsRow_below (unhide HOW) ((under_box _).trans (drewN_low _ q))
              obtain ⟨wa, hwa⟩ : ∃ wa, (wr.alloc (.cells #[.string (S x), .string (S y)] 77)).drewN nq = wa := ⟨_, rfl⟩
              have HOA := hide (unhide (HOQ nq))
              have HXA := hide (unhide (HQ nq))
              have hcx : ((wr.alloc (.cells #[.string (S x), .string (S y)] 77)).drewN nq).cell? ⟨wr.heap.size, 0, none⟩ = some (.string (S x)) := by simp
              have hsq : ((wr.alloc (.cells #[.string (S x), .string (S y)] 77)).drewN nq).heap.size = wr.heap.size + 1 := by simp
              rw [hwa] at HOA HXA hcx hsq ⊢
              have HSZ := hide (unhide HXA).size
              clear HOQ HQ hwa
              go_wp2_with (first | (at_builtin; refine wpList_append_fresh rfl _ _ 49 rfl (w.heap.size + 1) 30 i0 (.agg #[.int .i64 0, .string ⟨#[]⟩, .int .i64 0]) 3 32 under_rres hi hz0 hz1 hz2 rfl (by decide) _ _ _ rfl ((unhide HOA).alloc _) ⟨wr.heap.size + 1, 0, none⟩ 1 1 [.int .i64 1, .string (S x), .int .i64 0] rfl rfl (triple_new wa _ _ _ _ hsq) ?c2 ?c3 ?c4 ?c5 ?_) | fail)
              case c2 => intro u hu; simp at hu; rcases hu with rfl | rfl | rfl <;> rfl
              case c3 => have := unhide HLK; unfold maxLen; omega
              case c4 => have := unhide HLK; omega
              case c5 => have := unhide HSZ; simp; omega
              intro v' w2 hown' hgrow _
              obtain ⟨va, vc, rfl, _⟩ := ownsRow_slice hown'
              have hb2 : Below (w.heap.size + 1) wa w2 := ((Below.refl (w.heap.size + 1) wa).alloc (unhide HSZ) _).grown hgrow (by have := unhide HSZ; simp; omega) (fun j hj => ((unhide HOA).lt j hj).1)
              have HB2 : Hid (Bx w (.cells #[.int .i64 kd, .int .i64 n, .slice (some ⟨b, off, none⟩) rows.length c] 38 (0, 0)) w2) := Below.trans (unhide HXA) hb2
              have HN : Hid (w2.ownsRow (w.heap.size + 1) 30 3 (.slice va ((tf k).length + 1) vc) (tf (k + 1)).length (E3 (tf (k + 1)))) := by
                show World.ownsRow _ _ _ _ _ _ _
                rw [unhide HKN2, List.length_append, E3_append]
                exact hown'
              clear hown' hgrow hb2
              go_wp2_with fail
              go_roundw
              case rel => exact ⟨k + 1, by omega, by go_num, unhide HN, unhide HB2⟩
              case measure => simp [intOf]; omega
      · have hkn : k = rows.length := by omega
        subst hkn
        have HR := hide (And.intro (Row3.of_own hown) hlow)
        clear hown hlow hbx HOW HBX HK HLN HGE
        go_wp2_with fail
        go_ret
        exact ⟨_, rfl, unhide HR⟩
end Go.Proofs.YteaiidcconggcaaDoor
/- The contract of adt's Answers. -/
namespace Go.Proofs.YteaiidcconggcaaDoor
open Go.RowKit
set_option linter.unusedVariables false
set_option maxRecDepth 100000

theorem B2.drew {w w1 : World} {A B : Obj} (h : B2 w A B w1) : B2 w A B w1.drew := Below.drew h
theorem B2.below {w w1 w2 : World} {A B : Obj} (h : B2 w A B w1) (hb : Below w1.heap.size w1 w2) : B2 w A B w2 := by
  have hs := Below.size h
  rw [World.size_alloc, World.size_alloc] at hs
  exact Below.trans h (hb.mono hs)
theorem B2.heap {w w1 : World} {A B : Obj} (h : B2 w A B w1) : w1.heap[w.heap.size]? = some A ∧ w1.heap[w.heap.size + 1]? = some B := by
  have hs := Below.size h
  rw [World.size_alloc, World.size_alloc] at hs
  refine ⟨?_, ?_⟩
  · rw [Below.block h _ (by omega), Below.heap_alloc _ _ _ (by simp)]; exact heap_alloc_new w _
  · rw [Below.block h _ (by omega)]
    have := heap_alloc_new (w.alloc A) B
    rwa [World.size_alloc] at this
theorem B2.sc {w : World} {A B : Obj} {a b c a' b' c' d' : Value} {t t' : TypeId} (hA : A = .cells #[a, b, c] t (0, 0)) (hB : B = .cells #[a', b', c', d'] t' (0, 0)) :
    (∀ w1, B2 w A B w1 → w1.cell? ⟨w.heap.size, 0, none⟩ = some a) ∧ (∀ w1, B2 w A B w1 → w1.cell? ⟨w.heap.size, 1, none⟩ = some b) ∧ (∀ w1, B2 w A B w1 → w1.cell? ⟨w.heap.size, 2, none⟩ = some c) ∧
    (∀ w1, B2 w A B w1 → w1.cell? ⟨w.heap.size + 1, 0, none⟩ = some a') ∧ (∀ w1, B2 w A B w1 → w1.cell? ⟨w.heap.size + 1, 1, none⟩ = some b') ∧ (∀ w1, B2 w A B w1 → w1.cell? ⟨w.heap.size + 1, 2, none⟩ = some c') ∧ (∀ w1, B2 w A B w1 → w1.cell? ⟨w.heap.size + 1, 3, none⟩ = some d') := by
  subst hA hB
  refine ⟨fun w1 h => ?_, fun w1 h => ?_, fun w1 h => ?_, fun w1 h => ?_, fun w1 h => ?_, fun w1 h => ?_, fun w1 h => ?_⟩ <;> first | (rw [block_cell h.heap.1]; rfl) | (rw [block_cell h.heap.2]; rfl)

set_option maxHeartbeats 6400000 in
theorem abound_any {w : World} {v : Value} {s : VS} (h : StAt w v s) (key : List UInt8) : Calls Tryd.prog 73 #[v, .string (S key)] w fun e w' => e = .returned (.tuple #[.string (S (if s.has key = true then s.val (hits key s.rows) else [])), .bool (s.has key)]) ∧ Below w.heap.size w w' := by
  have HF := hide (fun (w1 : World) (hb : Below w.heap.size w w1) => vfind_any (h.later hb) key)
  obtain ⟨k0, rfl, hr⟩ := h
  obtain ⟨a, c, rfl, hc, hm⟩ := hr.shape
  unfold maxLen at hm
  have HST := hide (Bx.start w (.cells #[.int .i64 s.kind, .int .i64 s.n, .slice a s.rows.length c] 47))
  unfold VS.has VS.val at *
  by_cases hl : hits key s.rows < s.rows.length
  · rw [decide_eq_true hl, if_pos rfl] at *
    obtain ⟨b, off, rfl, hbl, e1, e2⟩ := hr.at _ hl
    have hg : s.rows.getD (hits key s.rows) ([], []) = s.rows[hits key s.rows]'hl := by simp [List.getD, hl]
    rw [hg]
    generalize s.rows[hits key s.rows]'hl = r at *
    generalize hits key s.rows = P at *
    obtain ⟨x, y⟩ := r
    obtain ⟨kd, n, rows⟩ := s
    dsimp only at *
    have hi0 : (0 : Int) ≤ (P : Int) := by omega
    have hi1 : (P : Int) < ((rows.length : Nat) : Int) := by omega
    clear hr hg hl
    go_enter Tryd.func73, Tryd.ntmps73
    go_wp2_with fail
    refine (unhide HF _ (under_box _)).mono ?_
    rintro e w1 ⟨rfl, hb⟩
    have hx := Bx.below (unhide HST) hb
    have s2 := (Bx.cells3 (w0 := w) rfl).2.2 _ hx
    have hlow := hx.low
    rw [← hlow.cell (p := ⟨b, off + P * 2 + 1, none⟩) hbl] at e2
    have HL := hide hlow
    clear hb hx hlow HF HST e1
    go_wp2_with fail
    exact bodyPost_ret (v := .tuple #[.string (S y), .bool true]) (by simp [results, Tryd.results73, go_sem]) rfl ⟨rfl, unhide HL⟩
  · rw [decide_eq_false hl] at *
    rw [if_neg (by simp)] at *
    generalize hits key s.rows = P at *
    obtain ⟨kd, n, rows⟩ := s
    dsimp only at *
    clear hr hl
    go_enter Tryd.func73, Tryd.ntmps73
    go_wp2_with fail
    refine (unhide HF _ (under_box _)).mono ?_
    rintro e w1 ⟨rfl, hb⟩
    have HL := hide (Bx.below (unhide HST) hb).low
    clear hb HF HST
    go_wp2_with fail
    exact bodyPost_ret (v := .tuple #[.string ⟨#[]⟩, .bool false]) (by simp [results, Tryd.results73, go_sem]) rfl ⟨rfl, unhide HL⟩

theorem front_found {w : World} (s : VS) : Calls Tryd.prog 72 #[.string (S (s.key 0)), .bool (decide (s.rows.length ≠ 0))] w fun e w' => e = .returned (.agg #[.int .i64 (frontR s).code, .string (S (frontR s).text), .int .i64 (frontR s).n]) ∧ Below w.heap.size w w' := by
  have h := afound_any (w := w) (s.key 0) (decide (s.rows.length ≠ 0))
  have e : (if decide (s.rows.length ≠ 0) = true then (⟨1, s.key 0, 0⟩ : MR) else okR false) = frontR s := by
    unfold frontR
    by_cases hl : s.rows.length = 0
    · rw [if_pos hl, if_neg (by simp [hl])]
    · rw [if_neg hl, if_pos (by simp [hl])]
  rw [e] at h
  exact h
theorem bound_found {w : World} (s : VS) (key : List UInt8) : Calls Tryd.prog 72 #[.string (S (if s.has key = true then s.val (hits key s.rows) else [])), .bool (s.has key)] w fun e w' => e = .returned (.agg #[.int .i64 (lookR s key).code, .string (S (lookR s key).text), .int .i64 (lookR s key).n]) ∧ Below w.heap.size w w' := by
  have h := afound_any (w := w) (if s.has key = true then s.val (hits key s.rows) else []) (s.has key)
  have e : (if s.has key = true then (⟨1, if s.has key = true then s.val (hits key s.rows) else [], 0⟩ : MR) else okR false) = lookR s key := by
    unfold lookR
    split <;> rfl
  rw [e] at h
  exact h
set_option maxHeartbeats 25600000 in
theorem aanswers_any {w : World} {v : Value} {s : VS} {c : MC} (h : StAt w v s) (hs : s.rows.length ≤ 1000) (hop : okOp c.op) (hw : MD w) :
    Calls Tryd.prog 60 #[v, mcV c] w fun e w' => ∃ v', e = .returned v' ∧ Row3 w' v' (answers s c) ∧ Below w.heap.size w w' := by
  have HKI := hide (fun (w1 : World) (hb : Below w.heap.size w w1) => mkind_any (hw.later hb) c.op)
  have HTK := hide (fun (w1 : World) (hb : Below w.heap.size w w1) => atakes_any (h.later hb) hs)
  have HYE : Hid (∀ (w1 : World) (t : List UInt8), Calls Tryd.prog 71 #[.string (S t)] w1 fun e w' => e = .returned (.agg #[.int .i64 1, .string (S t), .int .i64 0]) ∧ Below w1.heap.size w1 w') := fun w1 t => ayes_any t
  have HON : Hid (∀ (w1 : World) (k : Int) (t : List UInt8) (m : Int), Calls Tryd.prog 70 #[.agg #[.int .i64 k, .string (S t), .int .i64 m]] w1 fun e w' => ∃ v', e = .returned v' ∧ Row3 w' v' [⟨k, t, m⟩] ∧ Below w1.heap.size w1 w') := fun w1 k t m => aonly_any ⟨k, t, m⟩
  rw [takeO_true] at HTK
  obtain ⟨K, hK⟩ : ∃ K, (mfact c.op).kind = K := ⟨_, rfl⟩
  obtain ⟨op, ca, cb, cn⟩ := c
  dsimp only at *
  rw [hK] at HKI
  unfold mcV
  dsimp only
  by_cases hk : K = s.kind
  · have e0 : (K != s.kind) = false := by rw [hk]; simp
    have hkk : ¬ (mfact op).kind ≠ s.kind := by rw [hK]; simpa using hk
    rcases op_cases hop with rfl | rfl | rfl | rfl | rfl | rfl | rfl | rfl | rfl | rfl | rfl | rfl | rfl | rfl | rfl | rfl | rfl
    · have hA : answers s ⟨1, ca, cb, cn⟩ = [⟨1, s.key 0, 0⟩] := by unfold answers; rw [if_neg hkk]; rfl
      rw [hA]
      clear hA HTK
      have HFR := hide (fun (w1 : World) (hb : Below w.heap.size w w1) => afront_any (h.later hb))
      generalize s.key 0 = x at *
      generalize (decide (s.rows.length ≠ 0)) = R at *
      obtain ⟨k0, rfl, hr⟩ := h
      obtain ⟨a, c, rfl, hc, hm⟩ := hr.shape
      obtain ⟨kd, n, rows⟩ := s
      dsimp only at *
      obtain ⟨A, hA⟩ : ∃ A : Obj, A = .cells #[.int .i64 kd, .int .i64 n, .slice a rows.length c] 47 (0, 0) := ⟨_, rfl⟩
      obtain ⟨B, hB⟩ : ∃ B : Obj, B = .cells #[.int .i64 1, .string (S ca), .string (S cb), .int .i64 cn] 24 (0, 0) := ⟨_, rfl⟩
      obtain ⟨c0, c1, c2, k0, k1, k2, k3⟩ := B2.sc (w := w) hA hB
      have hst := B2.start w A B
      have hstd := hst.drew
      clear hr hkk hK hk hw hs hop
      go_enter Tryd.func60, Tryd.ntmps60
      go_wp2_with fail
      rw [← hA, ← hB]
      clear hA hB
      go_region_held3 (fun w' => B2 w A B w') (with_reducible (first | exact hstd | exact hst | (refine B2.below ?_ (by assumption) <;> assumption)))
        (first | (go_at_call 28; refine (unhide HKI _ (B2.low (by assumption))).mono ?_; rintro e wm ⟨rfl, hbm⟩) | fail)
      have hx0 : B2 w A B wm := by assumption
      clear hbm hst hstd HKI
      go_wp2_with fail
      refine (unhide HFR _ (hx0.low)).mono ?_
      rintro e w1 ⟨rfl, hb1⟩
      have hx1 := hx0.below hb1
      clear hb1
      go_wp2_with fail
      refine (unhide HYE _ x).mono ?_
      rintro e w2 ⟨rfl, hb2⟩
      have hx2 := hx1.below hb2
      clear hb2
      go_wp2_with fail
      refine (unhide HON _ 1 x 0).mono ?_
      rintro e w3 ⟨v3, rfl, hrow, hb3⟩
      have hx3 := hx2.below hb3
      clear hb3
      go_wp2_with fail
      go_ret
      exact ⟨_, rfl, hrow, hx3.low⟩
    · have hA : answers s ⟨2, ca, cb, cn⟩ = [okR true] := by unfold answers; rw [if_neg hkk]; rfl
      rw [hA]
      clear hA HTK
      obtain ⟨k0, rfl, hr⟩ := h
      obtain ⟨a, c, rfl, hc, hm⟩ := hr.shape
      obtain ⟨kd, n, rows⟩ := s
      dsimp only at *
      obtain ⟨A, hA⟩ : ∃ A : Obj, A = .cells #[.int .i64 kd, .int .i64 n, .slice a rows.length c] 47 (0, 0) := ⟨_, rfl⟩
      obtain ⟨B, hB⟩ : ∃ B : Obj, B = .cells #[.int .i64 2, .string (S ca), .string (S cb), .int .i64 cn] 24 (0, 0) := ⟨_, rfl⟩
      obtain ⟨c0, c1, c2, k0, k1, k2, k3⟩ := B2.sc (w := w) hA hB
      have hst := B2.start w A B
      have hstd := hst.drew
      clear hr hkk hK hk hw hs hop
      go_enter Tryd.func60, Tryd.ntmps60
      go_wp2_with fail
      rw [← hA, ← hB]
      clear hA hB
      go_region_held3 (fun w' => B2 w A B w') (with_reducible (first | exact hstd | exact hst | (refine B2.below ?_ (by assumption) <;> assumption)))
        (first | (go_at_call 28; refine (unhide HKI _ (B2.low (by assumption))).mono ?_; rintro e wm ⟨rfl, hbm⟩) | fail)
      have hx0 : B2 w A B wm := by assumption
      clear hbm hst hstd HKI
      go_wp2_with fail
      refine (unhide HYE _ []).mono ?_
      rintro e w1 ⟨rfl, hb1⟩
      have hx1 := hx0.below hb1
      clear hb1
      go_wp2_with fail
      refine (unhide HON _ 1 [] 0).mono ?_
      rintro e w2 ⟨v2, rfl, hrow, hb2⟩
      have hx2 := hx1.below hb2
      clear hb2
      go_wp2_with fail
      go_ret
      exact ⟨_, rfl, hrow, hx2.low⟩
    · have hA : answers s ⟨3, ca, cb, cn⟩ = [okR true] := by unfold answers; rw [if_neg hkk]; rfl
      rw [hA]
      clear hA HTK
      obtain ⟨k0, rfl, hr⟩ := h
      obtain ⟨a, c, rfl, hc, hm⟩ := hr.shape
      obtain ⟨kd, n, rows⟩ := s
      dsimp only at *
      obtain ⟨A, hA⟩ : ∃ A : Obj, A = .cells #[.int .i64 kd, .int .i64 n, .slice a rows.length c] 47 (0, 0) := ⟨_, rfl⟩
      obtain ⟨B, hB⟩ : ∃ B : Obj, B = .cells #[.int .i64 3, .string (S ca), .string (S cb), .int .i64 cn] 24 (0, 0) := ⟨_, rfl⟩
      obtain ⟨c0, c1, c2, k0, k1, k2, k3⟩ := B2.sc (w := w) hA hB
      have hst := B2.start w A B
      have hstd := hst.drew
      clear hr hkk hK hk hw hs hop
      go_enter Tryd.func60, Tryd.ntmps60
      go_wp2_with fail
      rw [← hA, ← hB]
      clear hA hB
      go_region_held3 (fun w' => B2 w A B w') (with_reducible (first | exact hstd | exact hst | (refine B2.below ?_ (by assumption) <;> assumption)))
        (first | (go_at_call 28; refine (unhide HKI _ (B2.low (by assumption))).mono ?_; rintro e wm ⟨rfl, hbm⟩) | fail)
      have hx0 : B2 w A B wm := by assumption
      clear hbm hst hstd HKI
      go_wp2_with fail
      refine (unhide HYE _ []).mono ?_
      rintro e w1 ⟨rfl, hb1⟩
      have hx1 := hx0.below hb1
      clear hb1
      go_wp2_with fail
      refine (unhide HON _ 1 [] 0).mono ?_
      rintro e w2 ⟨v2, rfl, hrow, hb2⟩
      have hx2 := hx1.below hb2
      clear hb2
      go_wp2_with fail
      go_ret
      exact ⟨_, rfl, hrow, hx2.low⟩
    · have hA : answers s ⟨4, ca, cb, cn⟩ = [⟨1, [], s.n⟩] := by unfold answers; rw [if_neg hkk]; rfl
      rw [hA]
      clear hA HTK
      obtain ⟨k0, rfl, hr⟩ := h
      obtain ⟨a, c, rfl, hc, hm⟩ := hr.shape
      obtain ⟨kd, n, rows⟩ := s
      dsimp only at *
      obtain ⟨A, hA⟩ : ∃ A : Obj, A = .cells #[.int .i64 kd, .int .i64 n, .slice a rows.length c] 47 (0, 0) := ⟨_, rfl⟩
      obtain ⟨B, hB⟩ : ∃ B : Obj, B = .cells #[.int .i64 4, .string (S ca), .string (S cb), .int .i64 cn] 24 (0, 0) := ⟨_, rfl⟩
      obtain ⟨c0, c1, c2, k0, k1, k2, k3⟩ := B2.sc (w := w) hA hB
      have hst := B2.start w A B
      have hstd := hst.drew
      clear hr hkk hK hk hw hs hop
      go_enter Tryd.func60, Tryd.ntmps60
      go_wp2_with fail
      rw [← hA, ← hB]
      clear hA hB
      go_region_held3 (fun w' => B2 w A B w') (with_reducible (first | exact hstd | exact hst | (refine B2.below ?_ (by assumption) <;> assumption)))
        (first | (go_at_call 28; refine (unhide HKI _ (B2.low (by assumption))).mono ?_; rintro e wm ⟨rfl, hbm⟩) | fail)
      have hx0 : B2 w A B wm := by assumption
      clear hbm hst hstd HKI
      go_wp2_with fail
      refine (unhide HON _ 1 [] _).mono ?_
      rintro e w1 ⟨v1, rfl, hrow, hb1⟩
      have hx1 := hx0.below hb1
      clear hb1
      go_wp2_with fail
      go_ret
      exact ⟨_, rfl, hrow, hx1.low⟩
    · have hA : answers s ⟨5, ca, cb, cn⟩ = [okR true] := by unfold answers; rw [if_neg hkk]; rfl
      rw [hA]
      clear hA HTK
      obtain ⟨k0, rfl, hr⟩ := h
      obtain ⟨a, c, rfl, hc, hm⟩ := hr.shape
      obtain ⟨kd, n, rows⟩ := s
      dsimp only at *
      obtain ⟨A, hA⟩ : ∃ A : Obj, A = .cells #[.int .i64 kd, .int .i64 n, .slice a rows.length c] 47 (0, 0) := ⟨_, rfl⟩
      obtain ⟨B, hB⟩ : ∃ B : Obj, B = .cells #[.int .i64 5, .string (S ca), .string (S cb), .int .i64 cn] 24 (0, 0) := ⟨_, rfl⟩
      obtain ⟨c0, c1, c2, k0, k1, k2, k3⟩ := B2.sc (w := w) hA hB
      have hst := B2.start w A B
      have hstd := hst.drew
      clear hr hkk hK hk hw hs hop
      go_enter Tryd.func60, Tryd.ntmps60
      go_wp2_with fail
      rw [← hA, ← hB]
      clear hA hB
      go_region_held3 (fun w' => B2 w A B w') (with_reducible (first | exact hstd | exact hst | (refine B2.below ?_ (by assumption) <;> assumption)))
        (first | (go_at_call 28; refine (unhide HKI _ (B2.low (by assumption))).mono ?_; rintro e wm ⟨rfl, hbm⟩) | fail)
      have hx0 : B2 w A B wm := by assumption
      clear hbm hst hstd HKI
      go_wp2_with fail
      refine (unhide HYE _ []).mono ?_
      rintro e w1 ⟨rfl, hb1⟩
      have hx1 := hx0.below hb1
      clear hb1
      go_wp2_with fail
      refine (unhide HON _ 1 [] 0).mono ?_
      rintro e w2 ⟨v2, rfl, hrow, hb2⟩
      have hx2 := hx1.below hb2
      clear hb2
      go_wp2_with fail
      go_ret
      exact ⟨_, rfl, hrow, hx2.low⟩
    · have hA : answers s ⟨6, ca, cb, cn⟩ = [okR (decide (cn ≤ s.n))] := by unfold answers; rw [if_neg hkk]; rfl
      rw [hA]
      clear hA HTK
      have HWH := hide (fun (w1 : World) => awhether_any (w := w1) (decide (cn ≤ s.n)))
      simp only [mrV] at HWH
      generalize okR (decide (cn ≤ s.n)) = r at *
      obtain ⟨R, hR⟩ : ∃ R, decide (cn ≤ s.n) = R := ⟨_, rfl⟩
      rw [hR] at HWH
      obtain ⟨k0, rfl, hr⟩ := h
      obtain ⟨a, c, rfl, hc, hm⟩ := hr.shape
      obtain ⟨kd, n, rows⟩ := s
      dsimp only at *
      obtain ⟨A, hA⟩ : ∃ A : Obj, A = .cells #[.int .i64 kd, .int .i64 n, .slice a rows.length c] 47 (0, 0) := ⟨_, rfl⟩
      obtain ⟨B, hB⟩ : ∃ B : Obj, B = .cells #[.int .i64 6, .string (S ca), .string (S cb), .int .i64 cn] 24 (0, 0) := ⟨_, rfl⟩
      obtain ⟨c0, c1, c2, k0, k1, k2, k3⟩ := B2.sc (w := w) hA hB
      have hst := B2.start w A B
      have hstd := hst.drew
      clear hr hkk hK hk hw hs hop
      go_enter Tryd.func60, Tryd.ntmps60
      go_wp2_with fail
      rw [← hA, ← hB]
      clear hA hB
      go_region_held3 (fun w' => B2 w A B w') (with_reducible (first | exact hstd | exact hst | (refine B2.below ?_ (by assumption) <;> assumption)))
        (first | (go_at_call 28; refine (unhide HKI _ (B2.low (by assumption))).mono ?_; rintro e wm ⟨rfl, hbm⟩) | fail)
      have hx0 : B2 w A B wm := by assumption
      clear hbm hst hstd HKI
      go_wp2_with fail
      refine (unhide HWH _).mono ?_
      rintro e w1 ⟨rfl, hb1⟩
      have hx1 := hx0.below hb1
      clear hb1
      go_wp2_with fail
      refine (unhide HON _ r.code r.text r.n).mono ?_
      rintro e w2 ⟨v2, rfl, hrow, hb2⟩
      have hx2 := hx1.below hb2
      clear hb2
      go_wp2_with fail
      go_ret
      exact ⟨_, rfl, hrow, hx2.low⟩
    · have hA : answers s ⟨7, ca, cb, cn⟩ = [⟨1, [], s.n⟩] := by unfold answers; rw [if_neg hkk]; rfl
      rw [hA]
      clear hA HTK
      obtain ⟨k0, rfl, hr⟩ := h
      obtain ⟨a, c, rfl, hc, hm⟩ := hr.shape
      obtain ⟨kd, n, rows⟩ := s
      dsimp only at *
      obtain ⟨A, hA⟩ : ∃ A : Obj, A = .cells #[.int .i64 kd, .int .i64 n, .slice a rows.length c] 47 (0, 0) := ⟨_, rfl⟩
      obtain ⟨B, hB⟩ : ∃ B : Obj, B = .cells #[.int .i64 7, .string (S ca), .string (S cb), .int .i64 cn] 24 (0, 0) := ⟨_, rfl⟩
      obtain ⟨c0, c1, c2, k0, k1, k2, k3⟩ := B2.sc (w := w) hA hB
      have hst := B2.start w A B
      have hstd := hst.drew
      clear hr hkk hK hk hw hs hop
      go_enter Tryd.func60, Tryd.ntmps60
      go_wp2_with fail
      rw [← hA, ← hB]
      clear hA hB
      go_region_held3 (fun w' => B2 w A B w') (with_reducible (first | exact hstd | exact hst | (refine B2.below ?_ (by assumption) <;> assumption)))
        (first | (go_at_call 28; refine (unhide HKI _ (B2.low (by assumption))).mono ?_; rintro e wm ⟨rfl, hbm⟩) | fail)
      have hx0 : B2 w A B wm := by assumption
      clear hbm hst hstd HKI
      go_wp2_with fail
      refine (unhide HON _ 1 [] _).mono ?_
      rintro e w1 ⟨v1, rfl, hrow, hb1⟩
      have hx1 := hx0.below hb1
      clear hb1
      go_wp2_with fail
      go_ret
      exact ⟨_, rfl, hrow, hx1.low⟩
    · have hA : answers s ⟨8, ca, cb, cn⟩ = [okR (!s.has ca)] := by unfold answers; rw [if_neg hkk]; rfl
      rw [hA]
      clear hA HTK
      have HTH := hide (fun (w1 : World) (hb : Below w.heap.size w w1) => aisThere_any (h.later hb) ca)
      have HWH := hide (fun (w1 : World) => awhether_any (w := w1) (!s.has ca))
      simp only [mrV] at HWH
      generalize okR (!s.has ca) = r at *
      generalize s.has ca = R at *
      obtain ⟨k0, rfl, hr⟩ := h
      obtain ⟨a, c, rfl, hc, hm⟩ := hr.shape
      obtain ⟨kd, n, rows⟩ := s
      dsimp only at *
      obtain ⟨A, hA⟩ : ∃ A : Obj, A = .cells #[.int .i64 kd, .int .i64 n, .slice a rows.length c] 47 (0, 0) := ⟨_, rfl⟩
      obtain ⟨B, hB⟩ : ∃ B : Obj, B = .cells #[.int .i64 8, .string (S ca), .string (S cb), .int .i64 cn] 24 (0, 0) := ⟨_, rfl⟩
      obtain ⟨c0, c1, c2, k0, k1, k2, k3⟩ := B2.sc (w := w) hA hB
      have hst := B2.start w A B
      have hstd := hst.drew
      clear hr hkk hK hk hw hs hop
      go_enter Tryd.func60, Tryd.ntmps60
      go_wp2_with fail
      rw [← hA, ← hB]
      clear hA hB
      go_region_held3 (fun w' => B2 w A B w') (with_reducible (first | exact hstd | exact hst | (refine B2.below ?_ (by assumption) <;> assumption)))
        (first | (go_at_call 28; refine (unhide HKI _ (B2.low (by assumption))).mono ?_; rintro e wm ⟨rfl, hbm⟩) | fail)
      have hx0 : B2 w A B wm := by assumption
      clear hbm hst hstd HKI
      go_wp2_with fail
      refine (unhide HTH _ (hx0.low)).mono ?_
      rintro e w1 ⟨rfl, hb1⟩
      have hx1 := hx0.below hb1
      clear hb1
      go_wp2_with fail
      refine (unhide HWH _).mono ?_
      rintro e w2 ⟨rfl, hb2⟩
      have hx2 := hx1.below hb2
      clear hb2
      go_wp2_with fail
      refine (unhide HON _ r.code r.text r.n).mono ?_
      rintro e w3 ⟨v3, rfl, hrow, hb3⟩
      have hx3 := hx2.below hb3
      clear hb3
      go_wp2_with fail
      go_ret
      exact ⟨_, rfl, hrow, hx3.low⟩
    · have hA : answers s ⟨9, ca, cb, cn⟩ = [okR (s.has ca)] := by unfold answers; rw [if_neg hkk]; rfl
      rw [hA]
      clear hA HTK
      have HTH := hide (fun (w1 : World) (hb : Below w.heap.size w w1) => aisThere_any (h.later hb) ca)
      have HWH := hide (fun (w1 : World) => awhether_any (w := w1) (s.has ca))
      simp only [mrV] at HWH
      generalize okR (s.has ca) = r at *
      generalize s.has ca = R at *
      obtain ⟨k0, rfl, hr⟩ := h
      obtain ⟨a, c, rfl, hc, hm⟩ := hr.shape
      obtain ⟨kd, n, rows⟩ := s
      dsimp only at *
      obtain ⟨A, hA⟩ : ∃ A : Obj, A = .cells #[.int .i64 kd, .int .i64 n, .slice a rows.length c] 47 (0, 0) := ⟨_, rfl⟩
      obtain ⟨B, hB⟩ : ∃ B : Obj, B = .cells #[.int .i64 9, .string (S ca), .string (S cb), .int .i64 cn] 24 (0, 0) := ⟨_, rfl⟩
      obtain ⟨c0, c1, c2, k0, k1, k2, k3⟩ := B2.sc (w := w) hA hB
      have hst := B2.start w A B
      have hstd := hst.drew
      clear hr hkk hK hk hw hs hop
      go_enter Tryd.func60, Tryd.ntmps60
      go_wp2_with fail
      rw [← hA, ← hB]
      clear hA hB
      go_region_held3 (fun w' => B2 w A B w') (with_reducible (first | exact hstd | exact hst | (refine B2.below ?_ (by assumption) <;> assumption)))
        (first | (go_at_call 28; refine (unhide HKI _ (B2.low (by assumption))).mono ?_; rintro e wm ⟨rfl, hbm⟩) | fail)
      have hx0 : B2 w A B wm := by assumption
      clear hbm hst hstd HKI
      go_wp2_with fail
      refine (unhide HTH _ (hx0.low)).mono ?_
      rintro e w1 ⟨rfl, hb1⟩
      have hx1 := hx0.below hb1
      clear hb1
      go_wp2_with fail
      refine (unhide HWH _).mono ?_
      rintro e w2 ⟨rfl, hb2⟩
      have hx2 := hx1.below hb2
      clear hb2
      go_wp2_with fail
      refine (unhide HON _ r.code r.text r.n).mono ?_
      rintro e w3 ⟨v3, rfl, hrow, hb3⟩
      have hx3 := hx2.below hb3
      clear hb3
      go_wp2_with fail
      go_ret
      exact ⟨_, rfl, hrow, hx3.low⟩
    · have hA : answers s ⟨10, ca, cb, cn⟩ = [okR (s.has ca)] := by unfold answers; rw [if_neg hkk]; rfl
      rw [hA]
      clear hA HTK
      have HTH := hide (fun (w1 : World) (hb : Below w.heap.size w w1) => aisThere_any (h.later hb) ca)
      have HWH := hide (fun (w1 : World) => awhether_any (w := w1) (s.has ca))
      simp only [mrV] at HWH
      generalize okR (s.has ca) = r at *
      generalize s.has ca = R at *
      obtain ⟨k0, rfl, hr⟩ := h
      obtain ⟨a, c, rfl, hc, hm⟩ := hr.shape
      obtain ⟨kd, n, rows⟩ := s
      dsimp only at *
      obtain ⟨A, hA⟩ : ∃ A : Obj, A = .cells #[.int .i64 kd, .int .i64 n, .slice a rows.length c] 47 (0, 0) := ⟨_, rfl⟩
      obtain ⟨B, hB⟩ : ∃ B : Obj, B = .cells #[.int .i64 10, .string (S ca), .string (S cb), .int .i64 cn] 24 (0, 0) := ⟨_, rfl⟩
      obtain ⟨c0, c1, c2, k0, k1, k2, k3⟩ := B2.sc (w := w) hA hB
      have hst := B2.start w A B
      have hstd := hst.drew
      clear hr hkk hK hk hw hs hop
      go_enter Tryd.func60, Tryd.ntmps60
      go_wp2_with fail
      rw [← hA, ← hB]
      clear hA hB
      go_region_held3 (fun w' => B2 w A B w') (with_reducible (first | exact hstd | exact hst | (refine B2.below ?_ (by assumption) <;> assumption)))
        (first | (go_at_call 28; refine (unhide HKI _ (B2.low (by assumption))).mono ?_; rintro e wm ⟨rfl, hbm⟩) | fail)
      have hx0 : B2 w A B wm := by assumption
      clear hbm hst hstd HKI
      go_wp2_with fail
      refine (unhide HTH _ (hx0.low)).mono ?_
      rintro e w1 ⟨rfl, hb1⟩
      have hx1 := hx0.below hb1
      clear hb1
      go_wp2_with fail
      refine (unhide HWH _).mono ?_
      rintro e w2 ⟨rfl, hb2⟩
      have hx2 := hx1.below hb2
      clear hb2
      go_wp2_with fail
      refine (unhide HON _ r.code r.text r.n).mono ?_
      rintro e w3 ⟨v3, rfl, hrow, hb3⟩
      have hx3 := hx2.below hb3
      clear hb3
      go_wp2_with fail
      go_ret
      exact ⟨_, rfl, hrow, hx3.low⟩
    · have hA : answers s ⟨11, ca, cb, cn⟩ = [okR (!s.has ca)] := by unfold answers; rw [if_neg hkk]; rfl
      rw [hA]
      clear hA HTK
      have HTH := hide (fun (w1 : World) (hb : Below w.heap.size w w1) => aisThere_any (h.later hb) ca)
      have HWH := hide (fun (w1 : World) => awhether_any (w := w1) (!s.has ca))
      simp only [mrV] at HWH
      generalize okR (!s.has ca) = r at *
      generalize s.has ca = R at *
      obtain ⟨k0, rfl, hr⟩ := h
      obtain ⟨a, c, rfl, hc, hm⟩ := hr.shape
      obtain ⟨kd, n, rows⟩ := s
      dsimp only at *
      obtain ⟨A, hA⟩ : ∃ A : Obj, A = .cells #[.int .i64 kd, .int .i64 n, .slice a rows.length c] 47 (0, 0) := ⟨_, rfl⟩
      obtain ⟨B, hB⟩ : ∃ B : Obj, B = .cells #[.int .i64 11, .string (S ca), .string (S cb), .int .i64 cn] 24 (0, 0) := ⟨_, rfl⟩
      obtain ⟨c0, c1, c2, k0, k1, k2, k3⟩ := B2.sc (w := w) hA hB
      have hst := B2.start w A B
      have hstd := hst.drew
      clear hr hkk hK hk hw hs hop
      go_enter Tryd.func60, Tryd.ntmps60
      go_wp2_with fail
      rw [← hA, ← hB]
      clear hA hB
      go_region_held3 (fun w' => B2 w A B w') (with_reducible (first | exact hstd | exact hst | (refine B2.below ?_ (by assumption) <;> assumption)))
        (first | (go_at_call 28; refine (unhide HKI _ (B2.low (by assumption))).mono ?_; rintro e wm ⟨rfl, hbm⟩) | fail)
      have hx0 : B2 w A B wm := by assumption
      clear hbm hst hstd HKI
      go_wp2_with fail
      refine (unhide HTH _ (hx0.low)).mono ?_
      rintro e w1 ⟨rfl, hb1⟩
      have hx1 := hx0.below hb1
      clear hb1
      go_wp2_with fail
      refine (unhide HWH _).mono ?_
      rintro e w2 ⟨rfl, hb2⟩
      have hx2 := hx1.below hb2
      clear hb2
      go_wp2_with fail
      refine (unhide HON _ r.code r.text r.n).mono ?_
      rintro e w3 ⟨v3, rfl, hrow, hb3⟩
      have hx3 := hx2.below hb3
      clear hb3
      go_wp2_with fail
      go_ret
      exact ⟨_, rfl, hrow, hx3.low⟩
    · have hA : answers s ⟨12, ca, cb, cn⟩ = [okR (s.has ca)] := by unfold answers; rw [if_neg hkk]; rfl
      rw [hA]
      clear hA HTK
      have HTH := hide (fun (w1 : World) (hb : Below w.heap.size w w1) => aisThere_any (h.later hb) ca)
      have HWH := hide (fun (w1 : World) => awhether_any (w := w1) (s.has ca))
      simp only [mrV] at HWH
      generalize okR (s.has ca) = r at *
      generalize s.has ca = R at *
      obtain ⟨k0, rfl, hr⟩ := h
      obtain ⟨a, c, rfl, hc, hm⟩ := hr.shape
      obtain ⟨kd, n, rows⟩ := s
      dsimp only at *
      obtain ⟨A, hA⟩ : ∃ A : Obj, A = .cells #[.int .i64 kd, .int .i64 n, .slice a rows.length c] 47 (0, 0) := ⟨_, rfl⟩
      obtain ⟨B, hB⟩ : ∃ B : Obj, B = .cells #[.int .i64 12, .string (S ca), .string (S cb), .int .i64 cn] 24 (0, 0) := ⟨_, rfl⟩
      obtain ⟨c0, c1, c2, k0, k1, k2, k3⟩ := B2.sc (w := w) hA hB
      have hst := B2.start w A B
      have hstd := hst.drew
      clear hr hkk hK hk hw hs hop
      go_enter Tryd.func60, Tryd.ntmps60
      go_wp2_with fail
      rw [← hA, ← hB]
      clear hA hB
      go_region_held3 (fun w' => B2 w A B w') (with_reducible (first | exact hstd | exact hst | (refine B2.below ?_ (by assumption) <;> assumption)))
        (first | (go_at_call 28; refine (unhide HKI _ (B2.low (by assumption))).mono ?_; rintro e wm ⟨rfl, hbm⟩) | fail)
      have hx0 : B2 w A B wm := by assumption
      clear hbm hst hstd HKI
      go_wp2_with fail
      refine (unhide HTH _ (hx0.low)).mono ?_
      rintro e w1 ⟨rfl, hb1⟩
      have hx1 := hx0.below hb1
      clear hb1
      go_wp2_with fail
      refine (unhide HWH _).mono ?_
      rintro e w2 ⟨rfl, hb2⟩
      have hx2 := hx1.below hb2
      clear hb2
      go_wp2_with fail
      refine (unhide HON _ r.code r.text r.n).mono ?_
      rintro e w3 ⟨v3, rfl, hrow, hb3⟩
      have hx3 := hx2.below hb3
      clear hb3
      go_wp2_with fail
      go_ret
      exact ⟨_, rfl, hrow, hx3.low⟩
    · have hA : answers s ⟨13, ca, cb, cn⟩ = [lookR s ca] := by unfold answers; rw [if_neg hkk]; rfl
      rw [hA]
      clear hA HTK
      have HFR := hide (fun (w1 : World) (hb : Below w.heap.size w w1) => abound_any (h.later hb) ca)
      have HFO := hide (fun (w1 : World) => bound_found (w := w1) s ca)
      generalize lookR s ca = r at *
      generalize (if s.has ca = true then s.val (hits ca s.rows) else []) = x at *
      generalize s.has ca = R at *
      obtain ⟨k0, rfl, hr⟩ := h
      obtain ⟨a, c, rfl, hc, hm⟩ := hr.shape
      obtain ⟨kd, n, rows⟩ := s
      dsimp only at *
      obtain ⟨A, hA⟩ : ∃ A : Obj, A = .cells #[.int .i64 kd, .int .i64 n, .slice a rows.length c] 47 (0, 0) := ⟨_, rfl⟩
      obtain ⟨B, hB⟩ : ∃ B : Obj, B = .cells #[.int .i64 13, .string (S ca), .string (S cb), .int .i64 cn] 24 (0, 0) := ⟨_, rfl⟩
      obtain ⟨c0, c1, c2, k0, k1, k2, k3⟩ := B2.sc (w := w) hA hB
      have hst := B2.start w A B
      have hstd := hst.drew
      clear hr hkk hK hk hw hs hop
      go_enter Tryd.func60, Tryd.ntmps60
      go_wp2_with fail
      rw [← hA, ← hB]
      clear hA hB
      go_region_held3 (fun w' => B2 w A B w') (with_reducible (first | exact hstd | exact hst | (refine B2.below ?_ (by assumption) <;> assumption)))
        (first | (go_at_call 28; refine (unhide HKI _ (B2.low (by assumption))).mono ?_; rintro e wm ⟨rfl, hbm⟩) | fail)
      have hx0 : B2 w A B wm := by assumption
      clear hbm hst hstd HKI
      go_wp2_with fail
      refine (unhide HFR _ (hx0.low)).mono ?_
      rintro e w1 ⟨rfl, hb1⟩
      have hx1 := hx0.below hb1
      clear hb1
      go_wp2_with fail
      refine (unhide HFO _).mono ?_
      rintro e w2 ⟨rfl, hb2⟩
      have hx2 := hx1.below hb2
      clear hb2
      go_wp2_with fail
      refine (unhide HON _ r.code r.text r.n).mono ?_
      rintro e w3 ⟨v3, rfl, hrow, hb3⟩
      have hx3 := hx2.below hb3
      clear hb3
      go_wp2_with fail
      go_ret
      exact ⟨_, rfl, hrow, hx3.low⟩
    · have hA : answers s ⟨14, ca, cb, cn⟩ = [okR true] := by unfold answers; rw [if_neg hkk]; rfl
      rw [hA]
      clear hA HTK
      obtain ⟨k0, rfl, hr⟩ := h
      obtain ⟨a, c, rfl, hc, hm⟩ := hr.shape
      obtain ⟨kd, n, rows⟩ := s
      dsimp only at *
      obtain ⟨A, hA⟩ : ∃ A : Obj, A = .cells #[.int .i64 kd, .int .i64 n, .slice a rows.length c] 47 (0, 0) := ⟨_, rfl⟩
      obtain ⟨B, hB⟩ : ∃ B : Obj, B = .cells #[.int .i64 14, .string (S ca), .string (S cb), .int .i64 cn] 24 (0, 0) := ⟨_, rfl⟩
      obtain ⟨c0, c1, c2, k0, k1, k2, k3⟩ := B2.sc (w := w) hA hB
      have hst := B2.start w A B
      have hstd := hst.drew
      clear hr hkk hK hk hw hs hop
      go_enter Tryd.func60, Tryd.ntmps60
      go_wp2_with fail
      rw [← hA, ← hB]
      clear hA hB
      go_region_held3 (fun w' => B2 w A B w') (with_reducible (first | exact hstd | exact hst | (refine B2.below ?_ (by assumption) <;> assumption)))
        (first | (go_at_call 28; refine (unhide HKI _ (B2.low (by assumption))).mono ?_; rintro e wm ⟨rfl, hbm⟩) | fail)
      have hx0 : B2 w A B wm := by assumption
      clear hbm hst hstd HKI
      go_wp2_with fail
      refine (unhide HYE _ []).mono ?_
      rintro e w1 ⟨rfl, hb1⟩
      have hx1 := hx0.below hb1
      clear hb1
      go_wp2_with fail
      refine (unhide HON _ 1 [] 0).mono ?_
      rintro e w2 ⟨v2, rfl, hrow, hb2⟩
      have hx2 := hx1.below hb2
      clear hb2
      go_wp2_with fail
      go_ret
      exact ⟨_, rfl, hrow, hx2.low⟩
    · have hA : answers s ⟨15, ca, cb, cn⟩ = [frontR s] := by unfold answers; rw [if_neg hkk]; rfl
      rw [hA]
      clear hA HTK
      have HFR := hide (fun (w1 : World) (hb : Below w.heap.size w w1) => afront_any (h.later hb))
      have HFO := hide (fun (w1 : World) => front_found (w := w1) s)
      generalize frontR s = r at *
      generalize s.key 0 = x at *
      generalize (decide (s.rows.length ≠ 0)) = R at *
      obtain ⟨k0, rfl, hr⟩ := h
      obtain ⟨a, c, rfl, hc, hm⟩ := hr.shape
      obtain ⟨kd, n, rows⟩ := s
      dsimp only at *
      obtain ⟨A, hA⟩ : ∃ A : Obj, A = .cells #[.int .i64 kd, .int .i64 n, .slice a rows.length c] 47 (0, 0) := ⟨_, rfl⟩
      obtain ⟨B, hB⟩ : ∃ B : Obj, B = .cells #[.int .i64 15, .string (S ca), .string (S cb), .int .i64 cn] 24 (0, 0) := ⟨_, rfl⟩
      obtain ⟨c0, c1, c2, k0, k1, k2, k3⟩ := B2.sc (w := w) hA hB
      have hst := B2.start w A B
      have hstd := hst.drew
      clear hr hkk hK hk hw hs hop
      go_enter Tryd.func60, Tryd.ntmps60
      go_wp2_with fail
      rw [← hA, ← hB]
      clear hA hB
      go_region_held3 (fun w' => B2 w A B w') (with_reducible (first | exact hstd | exact hst | (refine B2.below ?_ (by assumption) <;> assumption)))
        (first | (go_at_call 28; refine (unhide HKI _ (B2.low (by assumption))).mono ?_; rintro e wm ⟨rfl, hbm⟩) | fail)
      have hx0 : B2 w A B wm := by assumption
      clear hbm hst hstd HKI
      go_wp2_with fail
      refine (unhide HFR _ (hx0.low)).mono ?_
      rintro e w1 ⟨rfl, hb1⟩
      have hx1 := hx0.below hb1
      clear hb1
      go_wp2_with fail
      refine (unhide HFO _).mono ?_
      rintro e w2 ⟨rfl, hb2⟩
      have hx2 := hx1.below hb2
      clear hb2
      go_wp2_with fail
      refine (unhide HON _ r.code r.text r.n).mono ?_
      rintro e w3 ⟨v3, rfl, hrow, hb3⟩
      have hx3 := hx2.below hb3
      clear hb3
      go_wp2_with fail
      go_ret
      exact ⟨_, rfl, hrow, hx3.low⟩
    · have hA : answers s ⟨16, ca, cb, cn⟩ = [okR true] := by unfold answers; rw [if_neg hkk]; rfl
      rw [hA]
      clear hA HTK
      obtain ⟨k0, rfl, hr⟩ := h
      obtain ⟨a, c, rfl, hc, hm⟩ := hr.shape
      obtain ⟨kd, n, rows⟩ := s
      dsimp only at *
      obtain ⟨A, hA⟩ : ∃ A : Obj, A = .cells #[.int .i64 kd, .int .i64 n, .slice a rows.length c] 47 (0, 0) := ⟨_, rfl⟩
      obtain ⟨B, hB⟩ : ∃ B : Obj, B = .cells #[.int .i64 16, .string (S ca), .string (S cb), .int .i64 cn] 24 (0, 0) := ⟨_, rfl⟩
      obtain ⟨c0, c1, c2, k0, k1, k2, k3⟩ := B2.sc (w := w) hA hB
      have hst := B2.start w A B
      have hstd := hst.drew
      clear hr hkk hK hk hw hs hop
      go_enter Tryd.func60, Tryd.ntmps60
      go_wp2_with fail
      rw [← hA, ← hB]
      clear hA hB
      go_region_held3 (fun w' => B2 w A B w') (with_reducible (first | exact hstd | exact hst | (refine B2.below ?_ (by assumption) <;> assumption)))
        (first | (go_at_call 28; refine (unhide HKI _ (B2.low (by assumption))).mono ?_; rintro e wm ⟨rfl, hbm⟩) | fail)
      have hx0 : B2 w A B wm := by assumption
      clear hbm hst hstd HKI
      go_wp2_with fail
      refine (unhide HYE _ []).mono ?_
      rintro e w1 ⟨rfl, hb1⟩
      have hx1 := hx0.below hb1
      clear hb1
      go_wp2_with fail
      refine (unhide HON _ 1 [] 0).mono ?_
      rintro e w2 ⟨v2, rfl, hrow, hb2⟩
      have hx2 := hx1.below hb2
      clear hb2
      go_wp2_with fail
      go_ret
      exact ⟨_, rfl, hrow, hx2.low⟩
    · have hA : answers s ⟨17, ca, cb, cn⟩ = takes s := by unfold answers; rw [if_neg hkk]; rfl
      rw [hA]
      clear hA
      generalize takes s = T at *
      obtain ⟨k0, rfl, hr⟩ := h
      obtain ⟨a, c, rfl, hc, hm⟩ := hr.shape
      obtain ⟨kd, n, rows⟩ := s
      dsimp only at *
      obtain ⟨A, hA⟩ : ∃ A : Obj, A = .cells #[.int .i64 kd, .int .i64 n, .slice a rows.length c] 47 (0, 0) := ⟨_, rfl⟩
      obtain ⟨B, hB⟩ : ∃ B : Obj, B = .cells #[.int .i64 17, .string (S ca), .string (S cb), .int .i64 cn] 24 (0, 0) := ⟨_, rfl⟩
      obtain ⟨c0, c1, c2, k0, k1, k2, k3⟩ := B2.sc (w := w) hA hB
      have hst := B2.start w A B
      have hstd := hst.drew
      clear hr hkk hK hk hw hs hop
      go_enter Tryd.func60, Tryd.ntmps60
      go_wp2_with fail
      rw [← hA, ← hB]
      clear hA hB
      go_region_held3 (fun w' => B2 w A B w') (with_reducible (first | exact hstd | exact hst | (refine B2.below ?_ (by assumption) <;> assumption)))
        (first | (go_at_call 28; refine (unhide HKI _ (B2.low (by assumption))).mono ?_; rintro e wm ⟨rfl, hbm⟩) | fail)
      have hx0 : B2 w A B wm := by assumption
      clear hbm hst hstd HKI
      go_wp2_with fail
      refine (unhide HTK _ (hx0.low)).mono ?_
      rintro e w1 ⟨v1, rfl, hrow, hb1⟩
      have hx1 := hx0.below hb1
      clear hb1
      go_wp2_with fail
      go_ret
      exact ⟨_, rfl, hrow, hx1.low⟩
  · have e0 : (K != s.kind) = true := by rw [bne_iff_ne]; exact hk
    have hkk : (mfact op).kind ≠ s.kind := by rw [hK]; exact hk
    rw [show answers s ⟨op, ca, cb, cn⟩ = [] by unfold answers; rw [if_pos hkk]]
    obtain ⟨k0, rfl, hr⟩ := h
    obtain ⟨a, c, rfl, hc, hm⟩ := hr.shape
    obtain ⟨kd, n, rows⟩ := s
    dsimp only at *
    obtain ⟨A, hA⟩ : ∃ A : Obj, A = .cells #[.int .i64 kd, .int .i64 n, .slice a rows.length c] 47 (0, 0) := ⟨_, rfl⟩
    obtain ⟨B, hB⟩ : ∃ B : Obj, B = .cells #[.int .i64 op, .string (S ca), .string (S cb), .int .i64 cn] 24 (0, 0) := ⟨_, rfl⟩
    obtain ⟨c0, c1, c2, k0, k1, k2, k3⟩ := B2.sc (w := w) hA hB
    have hst := B2.start w A B
    have hstd := hst.drew
    clear hr hkk hK hk hw hs hop HTK HYE HON
    go_enter Tryd.func60, Tryd.ntmps60
    go_wp2_with fail
    rw [← hA, ← hB]
    clear hA hB
    go_region_held3 (fun w' => B2 w A B w') (with_reducible (first | exact hstd | exact hst | (refine B2.below ?_ (by assumption) <;> assumption)))
      (first | (go_at_call 28; refine (unhide HKI _ (B2.low (by assumption))).mono ?_; rintro e wm ⟨rfl, hbm⟩) | fail)
    have hx0 : B2 w A B wm := by assumption
    clear hbm hst hstd HKI
    go_wp2_with fail
    go_ret
    exact ⟨_, rfl, Row3.nil _, hx0.low⟩
end Go.Proofs.YteaiidcconggcaaDoor
