/- Texts that this proof needs, one behind the other: WShelf, WMath, WCalls, WScan, WScan2, WSector, WOpen, WAppend, WAppend2, WDevMath, WLaw, WRow. -/
import Derived.Shelf.Strings.BuilderK
import Derived.Test.YtbmhmljbpjimoaaDoorBundleS3
import Derived.Test.YtbmhmljbpjimoaaDoorBundleC1
import Derived.Test.YtbmhmljbpjimoaaDoorBundleS5
import Derived.Test.YtbmhmljbpjimoaaDoorBundleD4
import Derived.Deep.QuietTactic
import Derived.BigQuiet
/- The contracts of strings.Builder's WriteString, String and Reset that keep all else, laid at this program. -/
namespace Go.Proofs.YtbmhmljbpjimoaaDoor
open Go.Shelf Go.RowKit
set_option linter.unusedVariables false
set_option maxRecDepth 100000

theorem bwrite (B b : Nat) (bs : List Value) (s : ByteArray) (w : World) (h : Lib.IsBuilderF 69 5 B b bs w) (hlen : bs.length + s.size ≤ 140737488355328) (hBw : B ≤ w.heap.size) :
    Calls Tryd.prog 26 #[.pointer (some ⟨b, 0, none⟩), .string s] w fun e w' => e = .returned (.tuple #[.int .i64 s.size, .nilIface]) ∧ (Lib.BuilderAtF 69 5 B b (.pointer (some ⟨b, 0, none⟩)) (bs ++ Lib.strCells s) w' ∧ Below B w w' ∧ Lib.OthersKept 5 (some b) w w') :=
  Any.Builder_WriteString_k (P := Tryd.prog) (ρ := Tryd.lays105_ren) { Tryd.lays105 with } Tryd.Builder_Extra_105 B b bs s w h hlen hBw
theorem bstring (B b : Nat) (l : List UInt8) (w : World) (h : Lib.IsBuilderF 69 5 B b (Lib.byteCells l) w) (hBw : B ≤ w.heap.size) :
    Calls Tryd.prog 27 #[.pointer (some ⟨b, 0, none⟩)] w fun e w' => e = .returned (.string (S l)) ∧ (Lib.IsBuilderF 69 5 B b (Lib.byteCells l) w' ∧ Below B w w' ∧ Lib.OthersKept 5 (some b) w w') :=
  Any.Builder_String_any_k (P := Tryd.prog) (ρ := Tryd.lays105_ren) { Tryd.lays105 with } Tryd.Builder_Extra_105 B b l w h hBw
end Go.Proofs.YtbmhmljbpjimoaaDoor
/- Plain mathematics of a log: the sectors of a text, what is found of sectors, stamp by stamp. No program is named here. -/
namespace Codec

structure Rec where
  first : Nat
  last : Nat
  text : List UInt8

def cost (n : Nat) : Nat := if n = 0 then 1 else (n - 1) / 44 + 1
theorem cost_pos (n : Nat) : 1 ≤ cost n := by unfold cost; split <;> omega
theorem cost_le (n k : Nat) (h : n ≤ 44 * k) (hk : 1 ≤ k) : cost n ≤ k := by unfold cost; split <;> omega
theorem cost_up (n : Nat) : n ≤ 44 * cost n := by unfold cost; split <;> omega
theorem cost_low (n : Nat) (h : 1 < cost n) : 44 * (cost n - 1) < n := by unfold cost at *; split at h <;> simp_all <;> omega

/- Does it follow? -/
def fits (x : Sec) (a : Nat) (o : Bool) : Prop := x.stamp = a ∧ x.mark ≤ 3 ∧ (x.mark % 2 = 0 ↔ o = true)
instance (x : Sec) (a : Nat) (o : Bool) : Decidable (fits x a o) := by unfold fits; infer_instance
def scan (g : Nat → Option Sec) : Nat → Nat → Bool → List UInt8 → Nat → List Rec × Nat
  | 0, _, _, _, f => ([], f)
  | n + 1, a, o, t, f => match g a with
    | none => ([], f)
    | some x => if fits x a o then
        if x.mark < 2 then scan g n (a + 1) true (t ++ x.data) f
        else (⟨f, a, t ++ x.data⟩ :: (scan g n (a + 1) false [] (a + 1)).1, (scan g n (a + 1) false [] (a + 1)).2)
      else ([], f)

theorem scan_none {g : Nat → Option Sec} {a : Nat} (h : g a = none) (n : Nat) (o : Bool) (t : List UInt8) (f : Nat) : scan g n a o t f = ([], f) := by
  cases n with
  | zero => rfl
  | succ n => unfold scan; rw [h]
theorem scan_not {g : Nat → Option Sec} {a : Nat} {x : Sec} {o : Bool} (h : g a = some x) (hx : ¬ fits x a o) (n : Nat) (t : List UInt8) (f : Nat) : scan g n a o t f = ([], f) := by
  cases n with
  | zero => rfl
  | succ n => unfold scan; rw [h]; dsimp only; rw [if_neg hx]
theorem scan_open {g : Nat → Option Sec} {a : Nat} {x : Sec} {o : Bool} (h : g a = some x) (hx : fits x a o) (hm : x.mark < 2) (n : Nat) (t : List UInt8) (f : Nat) : scan g (n + 1) a o t f = scan g n (a + 1) true (t ++ x.data) f := by
  rw [scan]; rw [h]; dsimp only; rw [if_pos hx, if_pos hm]
theorem scan_whole {g : Nat → Option Sec} {a : Nat} {x : Sec} {o : Bool} (h : g a = some x) (hx : fits x a o) (hm : ¬ x.mark < 2) (n : Nat) (t : List UInt8) (f : Nat) : scan g (n + 1) a o t f = (⟨f, a, t ++ x.data⟩ :: (scan g n (a + 1) false [] (a + 1)).1, (scan g n (a + 1) false [] (a + 1)).2) := by
  rw [scan]; rw [h]; dsimp only; rw [if_pos hx, if_neg hm]

/- A text's sectors: the piece with number j. -/
def piece (s : List UInt8) (j : Nat) : List UInt8 := (s.drop (44 * j)).take 44
def mk (s : List UInt8) (j : Nat) : Nat := (if j = 0 then 1 else 0) + (if j + 1 = cost s.length then 2 else 0)
def sec (s : List UInt8) (a j : Nat) : Sec := ⟨a + j, mk s j, piece s j⟩
theorem piece_length (s : List UInt8) (j : Nat) : (piece s j).length ≤ 44 := by unfold piece; rw [List.length_take]; omega
theorem mk_par (s : List UInt8) (j : Nat) : mk s j % 2 = 0 ↔ decide (j ≠ 0) = true := by
  unfold mk
  by_cases h0 : j = 0
  · rw [if_pos h0]
    simp only [h0, ne_eq, not_true_eq_false, decide_false, Bool.false_eq_true, iff_false]
    split <;> omega
  · rw [if_neg h0]
    simp only [h0, ne_eq, not_false_eq_true, decide_true, iff_true]
    split <;> omega
theorem mk_le (s : List UInt8) (j : Nat) : mk s j ≤ 3 := by unfold mk; split <;> split <;> omega
theorem sec_ok (s : List UInt8) (a j : Nat) (h : a + j ≤ 1099511627776) : (sec s a j).Ok := ⟨h, by have := mk_le s j; show mk s j ≤ 255; omega, by have := piece_length s j; show (piece s j).length ≤ 50; omega⟩

/- The records of texts, one behind the other. -/
def recs (a : Nat) : List (List UInt8) → List Rec
  | [] => []
  | s :: r => ⟨a, a + cost s.length - 1, s⟩ :: recs (a + cost s.length) r
def costs : List (List UInt8) → Nat
  | [] => 0
  | s :: r => cost s.length + costs r
theorem costs_append (a b : List (List UInt8)) : costs (a ++ b) = costs a + costs b := by
  induction a with
  | nil => simp [costs]
  | cons s r ih => simp [costs, ih]; omega
theorem recs_append (x : Nat) (a b : List (List UInt8)) : recs x (a ++ b) = recs x a ++ recs (x + costs a) b := by
  induction a generalizing x with
  | nil => simp [recs, costs]
  | cons s r ih => simp [recs, costs, ih, Nat.add_assoc]
theorem recs_length (x : Nat) (a : List (List UInt8)) : (recs x a).length = a.length := by
  induction a generalizing x with
  | nil => rfl
  | cons s r ih => simp [recs, ih]
/- The sector that texts from x on put at stamp a. -/
def secAt (x : Nat) : List (List UInt8) → Nat → Option Sec
  | [], _ => none
  | s :: r, a => if a < x + cost s.length then some (sec s x (a - x)) else secAt (x + cost s.length) r a

theorem piece_all (s : List UInt8) (n : Nat) : ∀ j, s.length ≤ 44 * (j + n) → 44 * j ≤ s.length → s.take (44 * j) ++ ((List.range n).map fun i => piece s (j + i)).flatten = s := by
  induction n with
  | zero => intro j h1 h2; simp; rw [List.take_of_length_le (by omega)]
  | succ n ih =>
    intro j h1 h2
    rw [List.range_succ_eq_map, List.map_cons, List.flatten_cons, List.map_map, ← List.append_assoc]
    have e : s.take (44 * j) ++ piece s (j + 0) = s.take (44 * (j + 1)) := by
      unfold piece
      rw [Nat.add_zero, show 44 * (j + 1) = 44 * j + 44 by omega, List.take_add]
    rw [e]
    by_cases h3 : 44 * (j + 1) ≤ s.length
    · have := ih (j + 1) (by omega) h3
      have e2 : (fun i => piece s (j + i)) ∘ Nat.succ = fun i => piece s (j + 1 + i) := by
        funext i; show piece s (j + Nat.succ i) = _; congr 1; omega
      rw [e2]; exact this
    · rw [List.take_of_length_le (by omega)]
      have : ∀ m, ((List.range m).map ((fun i => piece s (j + i)) ∘ Nat.succ)).flatten = [] := by
        intro m
        rw [List.flatten_eq_nil_iff]
        intro l hl
        obtain ⟨i, hi, rfl⟩ := List.mem_map.1 hl
        show piece s (j + Nat.succ i) = []
        unfold piece
        rw [List.drop_of_length_le (by omega)]
        rfl
      rw [this, List.append_nil]

/- A record from its piece j on: if all stand it is found; if one doesn't, nothing more is. -/
theorem scan_text {g : Nat → Option Sec} (s : List UInt8) (x f : Nat) (m : Nat) : ∀ n j, j + n = cost s.length → 1 ≤ n → (∀ i, j ≤ i → i < cost s.length → g (x + i) = some (sec s x i)) →
    scan g (n + m) (x + j) (decide (j ≠ 0)) (s.take (44 * j)) f = (⟨f, x + cost s.length - 1, s⟩ :: (scan g m (x + cost s.length) false [] (x + cost s.length)).1, (scan g m (x + cost s.length) false [] (x + cost s.length)).2) := by
  intro n
  induction n with
  | zero => intro j _ h; omega
  | succ n ih =>
    intro j hj _ hg
    have hgj := hg j (Nat.le_refl _) (by omega)
    have hup := cost_up s.length
    have hfit : fits (sec s x j) (x + j) (decide (j ≠ 0)) := by
      exact ⟨rfl, mk_le s j, mk_par s j⟩
    have et : s.take (44 * j) ++ (sec s x j).data = s.take (44 * (j + 1)) := by
      show s.take (44 * j) ++ piece s j = _
      unfold piece
      rw [show 44 * (j + 1) = 44 * j + 44 by omega, List.take_add]
    rw [show n + 1 + m = (n + m) + 1 by omega]
    by_cases hn : n = 0
    · have hm : ¬ (sec s x j).mark < 2 := by
        show ¬ mk s j < 2
        unfold mk
        rw [if_pos (show j + 1 = cost s.length by omega)]
        split <;> omega
      rw [scan_whole hgj hfit hm, et, List.take_of_length_le (by rw [show j + 1 = cost s.length by omega]; exact hup)]
      subst hn
      rw [Nat.zero_add, show x + j + 1 = x + cost s.length by omega, show x + cost s.length - 1 = x + j by omega]
    · have hm : (sec s x j).mark < 2 := by
        show mk s j < 2
        unfold mk
        rw [if_neg (show ¬ j + 1 = cost s.length by omega)]
        split <;> omega
      rw [scan_open hgj hfit hm, et]
      have := ih (j + 1) (by omega) (by omega) (fun i h1 h2 => hg i (by omega) h2)
      rw [show x + j + 1 = x + (j + 1) by omega]
      rw [show (decide (j + 1 ≠ 0)) = true by simp] at this
      exact this
/- At a there is no sector of that stamp. -/
def gap (g : Nat → Option Sec) (a : Nat) : Prop := ∀ x, g a = some x → x.stamp ≠ a
theorem scan_gap {g : Nat → Option Sec} {a : Nat} (h : gap g a) (n : Nat) (o : Bool) (t : List UInt8) (f : Nat) : scan g n a o t f = ([], f) := by
  cases e : g a with
  | none => exact scan_none e n o t f
  | some x => exact scan_not e (fun hx => h x e hx.1) n t f
theorem scan_lost {g : Nat → Option Sec} (s : List UInt8) (x f : Nat) (m : Nat) : ∀ n j, j + n = cost s.length → 1 ≤ n → (∀ i, j ≤ i → i < cost s.length → g (x + i) = some (sec s x i) ∨ gap g (x + i)) → (∃ i, j ≤ i ∧ i < cost s.length ∧ gap g (x + i)) →
    scan g (n + m) (x + j) (decide (j ≠ 0)) (s.take (44 * j)) f = ([], f) := by
  intro n
  induction n with
  | zero => intro j _ h; omega
  | succ n ih =>
    intro j hj _ hg hx
    rcases hg j (Nat.le_refl _) (by omega) with hgj | hgap
    · have hfit : fits (sec s x j) (x + j) (decide (j ≠ 0)) := by
        exact ⟨rfl, mk_le s j, mk_par s j⟩
      obtain ⟨i, hi1, hi2, hi3⟩ := hx
      have hne : i ≠ j := by
        rintro rfl
        exact hi3 _ hgj rfl
      have hm : (sec s x j).mark < 2 := by
        show mk s j < 2
        unfold mk
        rw [if_neg (show ¬ j + 1 = cost s.length by omega)]
        split <;> omega
      have et : s.take (44 * j) ++ (sec s x j).data = s.take (44 * (j + 1)) := by
        show s.take (44 * j) ++ piece s j = _
        unfold piece
        rw [show 44 * (j + 1) = 44 * j + 44 by omega, List.take_add]
      rw [show n + 1 + m = (n + m) + 1 by omega, scan_open hgj hfit hm, et]
      have := ih (j + 1) (by omega) (by omega) (fun i h1 h2 => hg i (by omega) h2) ⟨i, by omega, hi2, hi3⟩
      rw [show x + j + 1 = x + (j + 1) by omega]
      rw [show (decide (j + 1 ≠ 0)) = true by simp] at this
      exact this
    · exact scan_gap hgap _ _ _ _

/- Texts one behind the other, of whose sectors some are lost: a beginning of them is found; all that stand wholly ahead of a gap are. -/
theorem scan_begin {g : Nat → Option Sec} : ∀ (l : List (List UInt8)) (x m : Nat), (∀ a, x ≤ a → a < x + costs l → g a = secAt x l a ∨ gap g a) → (∀ a, x + costs l ≤ a → a < x + costs l + m → gap g a) →
    ∃ k, k ≤ l.length ∧ scan g (costs l + m) x false [] x = (recs x (l.take k), x + costs (l.take k)) ∧ (∀ q, q ≤ l.length → (∀ a, x ≤ a → a < x + costs (l.take q) → g a = secAt x l a) → q ≤ k) ∧ (∀ a, x ≤ a → a < x + costs (l.take k) → g a = secAt x l a)
  | [], x, m, _, h2 => by
    refine ⟨0, Nat.le_refl _, ?_, fun q hq _ => hq, fun a h1 h2 => by simp [costs] at h2; omega⟩
    show scan g (0 + m) x false [] x = ([], x + 0)
    rw [Nat.zero_add]
    cases m with
    | zero => rfl
    | succ m => rw [scan_gap (h2 x (by simp [costs]) (by simp [costs])) _ _ _ _]; rfl
  | s :: r, x, m, h1, h2 => by
    have hc := cost_pos s.length
    have hs : ∀ i, i < cost s.length → g (x + i) = some (sec s x i) ∨ gap g (x + i) := by
      intro i hi
      have := h1 (x + i) (by omega) (by simp [costs]; omega)
      rw [secAt, if_pos (by omega), show x + i - x = i by omega] at this
      exact this
    by_cases hall : ∀ i, i < cost s.length → g (x + i) = some (sec s x i)
    · obtain ⟨k, hk, e, hq, hst⟩ := scan_begin r (x + cost s.length) m (fun a ha hb => by
        have := h1 a (by omega) (by simp [costs]; omega)
        rw [secAt, if_neg (by omega)] at this
        exact this) (fun a ha hb => h2 a (by simp [costs]; omega) (by simp [costs]; omega))
      refine ⟨k + 1, by simp; omega, ?_, ?_, ?_⟩
      · have := scan_text s x x (costs r + m) (cost s.length) 0 (by omega) hc (fun i _ hi => hall i hi)
        rw [show costs (s :: r) + m = cost s.length + (costs r + m) by simp [costs]; omega]
        simp only [Nat.add_zero, ne_eq, not_true_eq_false, decide_false, Nat.mul_zero, List.take_zero] at this
        rw [this, e]
        simp [recs, costs, Nat.add_assoc]
      · intro q hq1 hq2
        cases q with
        | zero => omega
        | succ q =>
          have := hq q (by simpa using hq1) (fun a ha hb => by
            have := hq2 a (by omega) (by simp [costs]; omega)
            rw [secAt, if_neg (by omega)] at this
            exact this)
          omega
      · intro a ha hb
        rw [secAt]
        by_cases h3 : a < x + cost s.length
        · rw [if_pos h3]
          have := hall (a - x) (by omega)
          rw [show x + (a - x) = a by omega] at this
          exact this
        · rw [if_neg h3]
          exact hst a (by omega) (by simp [costs] at hb; omega)
    · obtain ⟨i, hi⟩ := Classical.not_forall.1 hall
      have hil : i < cost s.length := Classical.byContradiction fun hn => hi (fun h => absurd h hn)
      have hgi : ¬ g (x + i) = some (sec s x i) := fun e => hi (fun _ => e)
      have hgap : gap g (x + i) := (hs i hil).resolve_left hgi
      refine ⟨0, Nat.zero_le _, ?_, ?_, fun a h1 h2 => by simp [costs] at h2; omega⟩
      · have := scan_lost s x x (costs r + m) (cost s.length) 0 (by omega) hc (fun i _ h => hs i h) ⟨i, Nat.zero_le _, hil, hgap⟩
        rw [show costs (s :: r) + m = cost s.length + (costs r + m) by simp [costs]; omega]
        simp only [Nat.add_zero, ne_eq, not_true_eq_false, decide_false, Nat.mul_zero, List.take_zero] at this
        rw [this]
        simp [recs, costs]
      · intro q hq1 hq2
        cases q with
        | zero => omega
        | succ q =>
          exfalso
          apply hgi
          have := hq2 (x + i) (by omega) (by simp [costs]; omega)
          rw [secAt, if_pos (by omega), show x + i - x = i by omega] at this
          exact this

theorem scan_fin {g : Nat → Option Sec} : ∀ n a o t f, f ≤ a → (scan g n a o t f).1 = [] ∧ (scan g n a o t f).2 = f ∨ a < (scan g n a o t f).2
  | 0, a, o, t, f, h => Or.inl ⟨rfl, rfl⟩
  | n + 1, a, o, t, f, h => by
    cases e : g a with
    | none => rw [scan_none e]; exact Or.inl ⟨rfl, rfl⟩
    | some x =>
      by_cases hf : fits x a o
      · by_cases hm : x.mark < 2
        · rw [scan_open e hf hm]
          rcases scan_fin (g := g) n (a + 1) true (t ++ x.data) f (by omega) with h1 | h1
          · exact Or.inl h1
          · exact Or.inr (by omega)
        · rw [scan_whole e hf hm]
          right
          show a < (scan g n (a + 1) false [] (a + 1)).2
          rcases scan_fin (g := g) n (a + 1) false [] (a + 1) (Nat.le_refl _) with h1 | h1
          · rw [h1.2]; omega
          · omega
      · rw [scan_not e hf]; exact Or.inl ⟨rfl, rfl⟩
/- Where sectors behind the end are lost, the same is found. -/
theorem scan_less {g g' : Nat → Option Sec} : ∀ n a o t f, f ≤ a → (∀ c, a ≤ c → c < a + n → g' c = g c ∨ gap g' c) → (∀ c, a ≤ c → c < (scan g n a o t f).2 → g' c = g c) → scan g' n a o t f = scan g n a o t f
  | 0, a, o, t, f, h, h1, h2 => rfl
  | n + 1, a, o, t, f, h, h1, h2 => by
    rcases h1 a (Nat.le_refl _) (by omega) with e | hgap
    · cases eg : g a with
      | none => rw [scan_none (e.trans eg), scan_none eg]
      | some x =>
        have eg' := e.trans eg
        by_cases hf : fits x a o
        · by_cases hm : x.mark < 2
          · rw [scan_open eg hf hm] at h2 ⊢
            rw [scan_open eg' hf hm]
            exact scan_less n (a + 1) true (t ++ x.data) f (by omega) (fun c hc hd => h1 c (by omega) (by omega)) (fun c hc hd => h2 c (by omega) hd)
          · rw [scan_whole eg hf hm] at h2 ⊢
            rw [scan_whole eg' hf hm]
            rw [scan_less n (a + 1) false [] (a + 1) (Nat.le_refl _) (fun c hc hd => h1 c (by omega) (by omega)) (fun c hc hd => h2 c (by omega) hd)]
        · rw [scan_not eg' hf, scan_not eg hf]
    · rw [scan_gap hgap]
      rcases scan_fin (g := g) (n + 1) a o t f h with h3 | h3
      · exact Prod.ext h3.1.symm h3.2.symm
      · have e := h2 a (Nat.le_refl _) h3
        cases eg : g a with
        | none => rw [scan_none eg]
        | some x =>
          have : ¬ fits x a o := fun hf => hgap x (e.trans eg) hf.1
          rw [scan_not eg this]
end Codec
/- The contracts of wal's small calls. -/
namespace Go.Proofs.YtbmhmljbpjimoaaDoor
open Go.RowKit
set_option linter.unusedVariables false
set_option maxRecDepth 100000

def AV (fr ln : Int) : Value := .agg #[.int .i64 fr, .int .i64 ln]
def areaE (d : Dev) (fr ln : Int) : Int := if ln < 2 ∨ fr < 0 ∨ (d.L.length : Int) - ln < fr then 4 else 0
def WL (b : Nat) (fr ln head next : Int) : Obj := .cells #[.pointer (some ⟨b, 0, none⟩), .int .i64 fr, .int .i64 ln, .int .i64 head, .int .i64 next] 57 (0, 0)

theorem wdev_heap {base : Nat} {w w' : World} {b : Nat} {d : Dev} (h : DevAt base w b d) (e : w'.heap = w.heap) : DevAt base w' b d := by
  obtain ⟨sv, lv, h⟩ := h
  exact ⟨sv, lv, h.same (by rw [e]) (fun k _ => by rw [e]) (fun k _ => by rw [e])⟩
theorem w_below_drewN {B : Nat} {u w : World} (h : Below B u w) (n : Nat) : Below B u (w.drewN n) := ⟨h.os, h.tape, h.output, h.size, h.block⟩

theorem acheck_any {base : Nat} {w : World} {b : Nat} {d : Dev} (h : DevAt base w b d) (fr ln : Int) (hm : d.L.length ≤ 65536) (hln : ln ≤ 9223372036854775807) :
    Calls Tryd.prog 24 #[AV fr ln, .pointer (some ⟨b, 0, none⟩)] w fun e w' => e = .returned (.int .i64 (areaE d fr ln)) ∧ Below w.heap.size w w' := by
  unfold AV
  obtain ⟨w0, hw0⟩ : ∃ w0, w.alloc (.cells #[.int .i64 fr, .int .i64 ln] 26) = w0 := ⟨_, rfl⟩
  have hb0 : Below w.heap.size w w0 := by rw [← hw0]; exact (Below.refl _ _).alloc (Nat.le_refl _) _
  have hx0 : w0.heap[w.heap.size]? = some (.cells #[.int .i64 fr, .int .i64 ln] 26 (0, 0)) := by rw [← hw0]; exact heap_alloc_new w _
  have p0 := bcell hx0 0
  have p1 := bcell hx0 1
  simp only [List.getElem?_toArray, List.getElem?_cons_zero, List.getElem?_cons_succ] at p0 p1
  have HLEN := hide (fun n => dlen_any (wdev_heap (h.later hb0).1 (w' := w0.drewN n) rfl))
  have HB0 := hide hb0
  obtain ⟨E, hE⟩ : ∃ E, areaE d fr ln = E := ⟨_, rfl⟩
  rw [hE]
  unfold areaE at hE
  generalize d.L.length = q at *
  clear h hb0 hx0
  by_cases h1 : ln < 2
  · have d1 : decide (ln < 2) = true := decide_eq_true h1
    rw [if_pos (Or.inl h1)] at hE
    subst hE
    go_enter Tryd.func24, Tryd.ntmps24
    go_wp2_with fail
    go_quiet (fail)
    go_wp2
    go_ret
    exact ⟨rfl, w_below_drewN (unhide HB0) _⟩
  · have d1 : decide (ln < 2) = false := decide_eq_false h1
    by_cases h2 : fr < 0
    · have d2 : decide (fr < 0) = true := decide_eq_true h2
      rw [if_pos (Or.inr (Or.inl h2))] at hE
      subst hE
      go_enter Tryd.func24, Tryd.ntmps24
      go_wp2_with fail
      go_quiet (fail)
      go_wp2
      go_ret
      exact ⟨rfl, w_below_drewN (unhide HB0) _⟩
    · have d2 : decide (fr < 0) = false := decide_eq_false h2
      have hw6 : wrap64 ((q : Int) - ln) = (q : Int) - ln := by unfold wrap64; omega
      have hwI : IntKind.i64.wrap ((q : Int) - ln) = (q : Int) - ln := by rw [IntKind.wrap_i64]; omega
      by_cases h3 : (q : Int) - ln < fr
      · have d3 : decide ((q : Int) - ln < fr) = true := decide_eq_true h3
        rw [if_pos (Or.inr (Or.inr h3))] at hE
        subst hE
        go_enter Tryd.func24, Tryd.ntmps24
        go_wp2_with fail
        go_quiet (first | (go_at_call 39; exact Calls.quiet_of_same (unhide HLEN _)))
        go_wp2
        go_ret
        exact ⟨rfl, w_below_drewN (unhide HB0) _⟩
      · have d3 : decide ((q : Int) - ln < fr) = false := decide_eq_false h3
        rw [if_neg (by omega)] at hE
        subst hE
        go_enter Tryd.func24, Tryd.ntmps24
        go_wp2_with fail
        go_quiet (first | (go_at_call 39; exact Calls.quiet_of_same (unhide HLEN _)))
        go_wp2
        go_ret
        exact ⟨rfl, w_below_drewN (unhide HB0) _⟩

def place (fr ln a : Nat) : Nat := fr + a % ln
theorem place_any (fr ln a : Nat) (w : World) (h1 : 1 ≤ ln) (h2 : ln ≤ 65536) (h3 : fr ≤ 65536) (h4 : a ≤ 4398046511104) :
    Calls Tryd.prog 21 #[AV fr ln, .int .i64 (a : Int)] w fun e w' => e = .returned (.int .i64 (place fr ln a : Nat)) ∧ Below w.heap.size w w' := by
  unfold AV
  obtain ⟨w0, hw0⟩ : ∃ w0, w.alloc (.cells #[.int .i64 (fr : Int), .int .i64 (ln : Int)] 26) = w0 := ⟨_, rfl⟩
  have hb0 : Below w.heap.size w w0 := by rw [← hw0]; exact (Below.refl _ _).alloc (Nat.le_refl _) _
  have hx0 : w0.heap[w.heap.size]? = some (.cells #[.int .i64 (fr : Int), .int .i64 (ln : Int)] 26 (0, 0)) := by rw [← hw0]; exact heap_alloc_new w _
  have p0 := bcell hx0 0
  have p1 := bcell hx0 1
  simp only [List.getElem?_toArray, List.getElem?_cons_zero, List.getElem?_cons_succ] at p0 p1
  have HB0 := hide hb0
  have hlt : a % ln < ln := Nat.mod_lt _ (by omega)
  have HZ : Hid (fr + a % ln = place fr ln a) := rfl
  have e1 : (a : Int).tmod (ln : Int) = ((a % ln : Nat) : Int) := by rw [Int.ofNat_tmod]
  have hne : ((ln : Int) == 0) = false := by simp; omega
  have hnz : (ln : Int) ≠ 0 := by omega
  generalize a % ln = r at *
  generalize place fr ln a = z at *
  clear hb0 hx0
  go_enter Tryd.func21, Tryd.ntmps21
  go_wp2_with fail
  go_quiet (fail)
  go_wp2
  go_ret
  refine ⟨ret_int ?_, w_below_drewN (unhide HB0) _⟩
  have hz := unhide HZ
  rw [Int.emod_eq_of_lt (by omega) (by omega)]
  unfold wrap64
  omega

theorem isStamp_any (i : Int) (w : World) :
    Calls Tryd.prog 29 #[.int .i64 i] w fun e w' => e = .returned (.bool (decide (1 ≤ i ∧ i ≤ 1099511627776))) ∧ w' = w := by
  by_cases h1 : 1 ≤ i
  · by_cases h2 : i ≤ 1099511627776
    · go_enter Tryd.func29, Tryd.ntmps29
      go_wp2
      go_ret
      exact ⟨ret_bool (by simp [h1, h2]), rfl⟩
    · go_enter Tryd.func29, Tryd.ntmps29
      go_wp2
      go_ret
      exact ⟨ret_bool (by simp; omega), rfl⟩
  · go_enter Tryd.func29, Tryd.ntmps29
    go_wp2
    go_ret
    exact ⟨ret_bool (by simp; omega), rfl⟩

theorem follows_any (m : Nat) (o : Bool) (w : World) (hm : m < 256) :
    Calls Tryd.prog 25 #[.int .u8 (m : Int), .bool o] w fun e w' => e = .returned (.bool (decide (m ≤ 3 ∧ (m % 2 = 0 ↔ o = true)))) ∧ w' = w := by
  by_cases h : m ≤ 3
  · have : m = 0 ∨ m = 1 ∨ m = 2 ∨ m = 3 := by omega
    rcases this with rfl | rfl | rfl | rfl <;> cases o <;>
    · go_enter Tryd.func25, Tryd.ntmps25
      go_wp2
      go_ret
      exact ⟨ret_bool (by decide), rfl⟩
  · have h2 : ¬ (m : Int) ≤ 3 := by omega
    go_enter Tryd.func25, Tryd.ntmps25
    go_wp2
    go_ret
    exact ⟨ret_bool (by simp), rfl⟩

theorem wcost_any (n : Nat) (w : World) (h : n ≤ 1099511627776) :
    Calls Tryd.prog 17 #[.int .i64 (n : Int)] w fun e w' => e = .returned (.int .i64 (Codec.cost n : Nat)) ∧ w' = w := by
  by_cases h1 : n = 0
  · subst h1
    go_enter Tryd.func17, Tryd.ntmps17
    go_wp2
    go_ret
    exact ⟨rfl, rfl⟩
  · have h2 : ¬ (n : Int) < 1 := by omega
    have HZ : Hid ((n - 1) / 44 + 1 = Codec.cost n) := by unfold Codec.cost; rw [if_neg h1]; exact rfl
    generalize Codec.cost n = z at *
    go_enter Tryd.func17, Tryd.ntmps17
    go_wp2
    go_ret
    refine ⟨ret_int ?_, rfl⟩
    have hz := unhide HZ
    omega
theorem wcost_neg (w : World) :
    Calls Tryd.prog 17 #[.int .i64 (-5)] w fun e w' => e = .returned (.int .i64 1) ∧ w' = w := by
  go_enter Tryd.func17, Tryd.ntmps17
  go_wp2
  go_ret
  exact ⟨rfl, rfl⟩

section
variable {w : World} {lb b : Nat} {fr ln head next : Int}
theorem wl_cells (h : w.heap[lb]? = some (WL b fr ln head next)) : w.cell? ⟨lb, 0, none⟩ = some (.pointer (some ⟨b, 0, none⟩)) ∧ w.cell? ⟨lb, 1, none⟩ = some (.int .i64 fr) ∧ w.cell? ⟨lb, 2, none⟩ = some (.int .i64 ln) ∧ w.cell? ⟨lb, 3, none⟩ = some (.int .i64 head) ∧ w.cell? ⟨lb, 4, none⟩ = some (.int .i64 next) :=
  ⟨by rw [bcell h]; rfl, by rw [bcell h]; rfl, by rw [bcell h]; rfl, by rw [bcell h]; rfl, by rw [bcell h]; rfl⟩
theorem wl_froz (h : w.heap[lb]? = some (WL b fr ln head next)) (k : Nat) : w.frozen? ⟨lb, k, none⟩ = false := bfroz h k

theorem head_any (h : w.heap[lb]? = some (WL b fr ln head next)) :
    Calls Tryd.prog 12 #[.pointer (some ⟨lb, 0, none⟩)] w fun e w' => e = .returned (.int .i64 head) ∧ w' = w := by
  obtain ⟨c0, c1, c2, c3, c4⟩ := wl_cells h
  clear h
  go_enter Tryd.func12, Tryd.ntmps12
  go_wp2
  go_ret
  exact ⟨rfl, rfl⟩
theorem next_any (h : w.heap[lb]? = some (WL b fr ln head next)) :
    Calls Tryd.prog 13 #[.pointer (some ⟨lb, 0, none⟩)] w fun e w' => e = .returned (.int .i64 next) ∧ w' = w := by
  obtain ⟨c0, c1, c2, c3, c4⟩ := wl_cells h
  clear h
  go_enter Tryd.func13, Tryd.ntmps13
  go_wp2
  go_ret
  exact ⟨rfl, rfl⟩
theorem free_any (h : w.heap[lb]? = some (WL b fr ln head next)) (h1 : 0 ≤ head) (h2 : head ≤ next) (h3 : next ≤ 4398046511104) (h4 : 0 ≤ ln) (h5 : ln ≤ 65536) :
    Calls Tryd.prog 16 #[.pointer (some ⟨lb, 0, none⟩)] w fun e w' => e = .returned (.int .i64 (ln - (next - head))) ∧ ∃ n, w' = w.drewN n := by
  obtain ⟨c0, c1, c2, c3, c4⟩ := wl_cells h
  clear h
  have e1 : wrap64 (next - head) = next - head := by unfold wrap64; omega
  have e2 : wrap64 (ln - (next - head)) = ln - (next - head) := by unfold wrap64; omega
  go_enter Tryd.func16, Tryd.ntmps16
  go_wp2
  go_quiet (fail)
  go_wp2
  go_ret
  exact ⟨rfl, nq, rfl⟩
theorem wl_head (h : w.heap[lb]? = some (WL b fr ln head next)) (q : Int) : (w.setCell ⟨lb, 3, none⟩ (.int .i64 q)).heap[lb]? = some (WL b fr ln q next) := heap_setCell_same w lb 3 _ _ _ h
theorem wl_next (h : w.heap[lb]? = some (WL b fr ln head next)) (q : Int) : (w.setCell ⟨lb, 4, none⟩ (.int .i64 q)).heap[lb]? = some (WL b fr ln head q) := heap_setCell_same w lb 4 _ _ _ h
end

theorem breset (b : Nat) (p v : Value) (w : World) (h : w.heap[b]? = some (.cells #[p, v] 69 (0, 0))) :
    Calls Tryd.prog 28 #[.pointer (some ⟨b, 0, none⟩)] w fun e w' => e = .returned (.tuple #[]) ∧ w' = (w.setCell ⟨b, 0, none⟩ (.pointer none)).setCell ⟨b, 1, none⟩ (.slice none 0 0) := by
  have c0 := bcell h 0
  have c1 := bcell h 1
  have f0 := bfroz h 0
  have f1 := bfroz h 1
  simp only [List.getElem?_toArray, List.getElem?_cons_zero, List.getElem?_cons_succ] at c0 c1
  clear h
  go_enter Tryd.func28, Tryd.ntmps28
  go_wp2_with fail
  go_end0
  exact ⟨rfl, rfl⟩
end Go.Proofs.YtbmhmljbpjimoaaDoor
/- The contract of Scan: what it finds, as rows of records. -/
namespace Go.Proofs.YtbmhmljbpjimoaaDoor
open Go.RowKit
set_option linter.unusedVariables false
set_option maxRecDepth 100000

def rcs : List Codec.Rec → List Value
  | [] => []
  | r :: l => .int .i64 (r.first : Int) :: .int .i64 (r.last : Int) :: .string (S r.text) :: rcs l
theorem rcs_append (a b : List Codec.Rec) : rcs (a ++ b) = rcs a ++ rcs b := by
  induction a with
  | nil => rfl
  | cons x r ih => simp [rcs, ih]
theorem info_rec : (Tryd.prog.info? 32).map (fun i => (i.zero, i.size, i.bytes)) = some (some (.agg #[.int .i64 0, .int .i64 0, .string ⟨#[]⟩]), 3, 32) := by kernel_rfl
theorem under_recs : Tryd.prog.underlying 38 = some (.slice 32) := by kernel_rfl

/- What stands at a stamp's place. -/
def view (d : Dev) (fr ln a : Nat) : Option Codec.Sec := if (Codec.parse (d.cur (place fr ln a))).2 = 0 then some (Codec.parse (d.cur (place fr ln a))).1 else none

/- The state of a scan in memory. -/
structure SR (w wr : World) (A B : Nat) (fr ln : Int) (v : Value) (rs : List Codec.Rec) (t : List UInt8) : Prop where
  low : Below w.heap.size w wr
  area : wr.heap[A]? = some (.cells #[.int .i64 fr, .int .i64 ln] 26 (0, 0))
  bld : Lib.IsBuilderF 69 5 w.heap.size B (Lib.byteCells t) wr
  row : wr.ownsRow w.heap.size 32 3 v rs.length (rcs rs)

theorem isBuilderF_keep {T e : TypeId} {B b : Nat} {bs : List Value} {w w' : World} (h : Lib.IsBuilderF T e B b bs w) (hk : w'.heap[b]? = w.heap[b]?) (hr : ∀ (k : Nat) (c : Array Value) (fz : Nat × Nat), w.heap[k]? = some (Obj.cells c e fz) → w'.heap[k]? = w.heap[k]?) : Lib.IsBuilderF T e B b bs w' := by
  have one : ∀ p, Lib.BuilderAtF T e B b p bs w → Lib.BuilderAtF T e B b p bs w' := by
    rintro p ⟨hB, v, hb, hown, hne⟩
    refine ⟨hB, v, by rw [hk]; exact hb, ⟨hown.1, ?_⟩, hne⟩
    rcases hown.2 with h0 | ⟨g, cap, cur, fz, hv, hg, hh, r⟩
    · exact Or.inl h0
    · exact Or.inr ⟨g, cap, cur, fz, hv, hg, by rw [hr g cur fz hh]; exact hh, r⟩
  rcases h with h | h
  · exact Or.inl (one _ h)
  · exact Or.inr (one _ h)
theorem isBuilderF_lt {T e : TypeId} {B b : Nat} {bs : List Value} {w : World} (h : Lib.IsBuilderF T e B b bs w) : b < w.heap.size := by
  rcases h with h | h <;> exact h.lt
theorem isBuilderF_blk {T e : TypeId} {B b : Nat} {bs : List Value} {w : World} (h : Lib.IsBuilderF T e B b bs w) : ∃ p v, w.heap[b]? = some (.cells #[p, v] T (0, 0)) ∧ B ≤ b := by
  rcases h with ⟨hB, v, hb, _⟩ | ⟨hB, v, hb, _⟩
  · exact ⟨_, v, hb, hB⟩
  · exact ⟨_, v, hb, hB⟩

section
variable {w wr w' : World} {A B : Nat} {fr ln : Int} {v : Value} {rs : List Codec.Rec} {t : List UInt8}
theorem SR.later (h : SR w wr A B fr ln v rs t) (hb : Below wr.heap.size wr w') : SR w w' A B fr ln v rs t :=
  ⟨h.low.trans (hb.mono h.low.size), (hb.block A (block_lt h.area)).trans h.area, isBuilderF_keep h.bld (hb.block B (isBuilderF_lt h.bld)) (fun k c fz hk => hb.block k (block_lt hk)), ownsRow_later h.row hb⟩
theorem SR.kept (h : SR w wr A B fr ln v rs t) (t' : List UInt8) (hb : Lib.IsBuilderF 69 5 w.heap.size B (Lib.byteCells t') w') (hl : Below w.heap.size wr w') (ho : Lib.OthersKept 5 (some B) wr w') : SR w w' A B fr ln v rs t' := by
  obtain ⟨p, q, hB, _⟩ := isBuilderF_blk h.bld
  refine ⟨h.low.trans hl, ho A _ h.area ?_ ?_, hb, ownsRow_same h.row fun k hk => ?_⟩
  · intro e
    cases e
    rw [h.area] at hB
    simp at hB
  · intro c fz e
    cases e
  · obtain ⟨cur, hc, _⟩ := ownsRow_blk h.row hk
    rw [hc]
    refine ho k _ hc ?_ ?_
    · intro e
      cases e
      rw [hc] at hB
      simp at hB
    · intro c fz e
      cases e
theorem SR.written (h : SR w wr A B fr ln v rs t) (s : List UInt8) (hb : Lib.BuilderAtF 69 5 w.heap.size B (.pointer (some ⟨B, 0, none⟩)) (Lib.byteCells t ++ Lib.strCells (S s)) w') (hl : Below w.heap.size wr w') (ho : Lib.OthersKept 5 (some B) wr w') : SR w w' A B fr ln v rs (t ++ s) := by
  refine h.kept (t ++ s) (Or.inr ?_) hl ho
  have : Lib.byteCells (t ++ s) = Lib.byteCells t ++ Lib.strCells (S s) := by simp [Lib.byteCells, Lib.strCells, S]
  rw [this]
  exact hb
theorem SR.reset (h : SR w wr A B fr ln v rs t) : SR w ((wr.setCell ⟨B, 0, none⟩ (.pointer none)).setCell ⟨B, 1, none⟩ (.slice none 0 0)) A B fr ln v rs [] := by
  obtain ⟨p, q, hB, hlo⟩ := isBuilderF_blk h.bld
  have ho : ∀ j, j ≠ B → ((wr.setCell ⟨B, 0, none⟩ (.pointer none)).setCell ⟨B, 1, none⟩ (.slice none 0 0)).heap[j]? = wr.heap[j]? := fun j hj => by
    rw [heap_setCell_other _ ⟨B, 1, none⟩ j _ hj, heap_setCell_other _ ⟨B, 0, none⟩ j _ hj]
  have hs : ((wr.setCell ⟨B, 0, none⟩ (.pointer none)).setCell ⟨B, 1, none⟩ (.slice none 0 0)).heap[B]? = some (.cells #[.pointer none, .slice none 0 0] 69 (0, 0)) := by
    have h1 := heap_setCell_same wr B 0 _ _ (.pointer none) hB
    exact heap_setCell_same _ B 1 _ _ (.slice none 0 0) h1
  refine ⟨(h.low.setCell (p := ⟨B, 0, none⟩) hlo _).setCell (p := ⟨B, 1, none⟩) hlo _, ?_, Or.inl ⟨hlo, .slice none 0 0, hs, World.ownsRowF_nil _ _ _ _, fun e => by cases e⟩, ownsRow_same h.row fun k hk => ho k ?_⟩
  · rw [ho A]
    · exact h.area
    · rintro rfl
      rw [h.area] at hB
      simp at hB
  · rintro rfl
    obtain ⟨cur, hc, _⟩ := ownsRow_blk h.row hk
    rw [hc] at hB
    simp at hB
theorem SR.grown (h : SR w wr A B fr ln v rs t) {v' : Value} (r : Codec.Rec) (hown : w'.ownsRow w.heap.size 32 3 v' (rs.length + 1) (rcs rs ++ [.int .i64 (r.first : Int), .int .i64 (r.last : Int), .string (S r.text)])) (hg : wr.grownBy w' v.ownBlock) : SR w w' A B fr ln v' (rs ++ [r]) t := by
  have hne : ∀ (k : Nat) (cs : Array Value) (ty : TypeId) (fz : Nat × Nat), wr.heap[k]? = some (Obj.cells cs ty fz) → ty ≠ 32 → w'.heap[k]? = wr.heap[k]? := fun k cs ty fz hk hty => by
    refine hg.block k (block_lt hk) fun e => ?_
    exact ownsRow_unlike h.row hk (Ne.symm hty) e.symm
  obtain ⟨p, q, hB, _⟩ := isBuilderF_blk h.bld
  refine ⟨h.low.grown hg h.low.size (fun k hk => by obtain ⟨cur, hc, hx⟩ := ownsRow_blk h.row hk; exact hx), (hne A _ _ _ h.area (by decide)).trans h.area, isBuilderF_keep h.bld (hne B _ _ _ hB (by decide)) (fun k c fz hk => hne k _ _ _ hk (by decide)), ?_⟩
  rw [rcs_append, List.length_append]
  exact hown
end
end Go.Proofs.YtbmhmljbpjimoaaDoor
/- The contract of Scan. -/
namespace Go.Proofs.YtbmhmljbpjimoaaDoor
open Go.RowKit
set_option linter.unusedVariables false
set_option maxRecDepth 100000

theorem cell_three_new (w : World) (u v z : Value) (t : TypeId) (j : Nat) (x : Value) (h : [u, v, z][j]? = some x) : (w.alloc (.cells #[u, v, z] t)).cell? ((⟨w.heap.size, 0, none⟩ : Addr).add j) = some x := by
  rw [plain_add, Nat.zero_add, block_cell (heap_alloc_new w _)]
  match j, h with
  | 0, h => simpa using h
  | 1, h => simpa using h
  | 2, h => simpa using h
  | j + 3, h => simp at h
theorem behind_bounds (q : List UInt8) (h : (Codec.behind q).2 = 0) : (Codec.behind q).1.stamp ≤ 1099511627776 ∧ (Codec.behind q).1.mark ≤ 255 ∧ (Codec.behind q).1.data.length ≤ 44 := by
  have hb := Codec.behind_body q
  unfold Codec.behind at *
  generalize Codec.readData q = rd at *
  generalize Codec.readNum q = rn at *
  generalize Codec.readMark q = rm at *
  by_cases h3 : rd.2.2 ≠ 0
  · rw [if_pos h3] at h
    exact absurd h h3
  · rw [if_neg h3] at h ⊢
    by_cases h4 : rn.1 = 0 ∨ rd.2.1.any (fun c => c != 0) = true
    · rw [if_pos h4] at h
      exact absurd h (by decide)
    · rw [if_neg h4]
      exact (hb (Classical.not_not.1 h3)).2
theorem parse_bounds (l : List UInt8) (h : (Codec.parse l).2 = 0) : (Codec.parse l).1.stamp ≤ 1099511627776 ∧ (Codec.parse l).1.mark ≤ 255 ∧ (Codec.parse l).1.data.length ≤ 44 := by
  have hb := behind_bounds (l.drop 4)
  unfold Codec.parse at *
  generalize Codec.behind (l.drop 4) = q at *
  generalize Codec.sumOf (l.drop 4) = y at *
  by_cases h1 : l.length ≠ 64
  · rw [if_pos h1] at h
    exact absurd h (by decide)
  · rw [if_neg h1] at h ⊢
    by_cases h2 : l.take 4 ≠ y
    · rw [if_pos h2] at h
      exact absurd h (by decide)
    · rw [if_neg h2] at h ⊢
      exact hb h
theorem and_two (m : Nat) (h : m ≤ 3) : bits BinOp.and IntKind.u8 (m : Int) 2 = if m < 2 then 0 else 2 := by
  have : m = 0 ∨ m = 1 ∨ m = 2 ∨ m = 3 := by omega
  rcases this with rfl | rfl | rfl | rfl <;> rfl

set_option maxRecDepth 4000 in
set_option maxHeartbeats 3200000 in
theorem scan_ok {base : Nat} {w : World} {b : Nat} {d : Dev} (h : DevAt base w b d) (fr ln x : Nat) (h2 : 2 ≤ ln) (hfl : fr + ln ≤ d.L.length) (hm : d.L.length ≤ 65536) (hdn : d.down = false) (hcur : ∀ k, k < d.L.length → (d.cur k).length ≤ 1000) (hx : x ≤ 1099511627776) (hn : d.W.length ≤ 1099511627776) :
    Calls Tryd.prog 9 #[.pointer (some ⟨b, 0, none⟩), AV fr ln, .int .i64 (x : Int)] w fun e w' => ∃ v, e = .returned (.tuple #[v, .int .i64 ((Codec.scan (view d fr ln) ln x false [] x).2 : Int), .int .i64 0]) ∧ w'.ownsRow w.heap.size 32 3 v (Codec.scan (view d fr ln) ln x false [] x).1.length (rcs (Codec.scan (view d fr ln) ln x false [] x).1) ∧ Below w.heap.size w w' := by
  have ha : areaE d fr ln = 0 := by unfold areaE; rw [if_neg (by omega)]
  have HCH := hide (fun wy (hb : DevAt base wy b d) => acheck_any hb (fr : Int) (ln : Int) hm (by omega))
  rw [ha] at HCH
  have HPL := hide (fun a wy (hy : a ≤ 4398046511104) => place_any fr ln a wy (by omega) (by omega) (by omega) hy)
  have hpl : ∀ a, place fr ln a < d.L.length := fun a => by
    unfold place
    have := Nat.mod_lt a (show 0 < ln by omega)
    omega
  have HRD : Hid (∀ a wy, DevAt base wy b d → Calls Tryd.prog 15 #[.pointer (some ⟨b, 0, none⟩), .int .i64 ((place fr ln a : Nat) : Int)] wy fun e w' => e = .returned (.tuple #[SV (Codec.parse (d.cur (place fr ln a))).1, .bool ((Codec.parse (d.cur (place fr ln a))).2 == 0), .int .i64 0]) ∧ Below wy.heap.size wy w') := fun a wy hy => by
    have hno : ¬ d.no ((place fr ln a : Nat) : Int) := by have := hpl a; unfold Dev.no; omega
    have e1 : d.read ((place fr ln a : Nat) : Int) = d.cur (place fr ln a) := by
      unfold Dev.read
      rw [if_neg hno, if_neg (by rw [hdn]; decide), Int.toNat_natCast]
    have e2 : d.readE ((place fr ln a : Nat) : Int) = 0 := by
      unfold Dev.readE
      rw [if_neg hno, if_neg (by rw [hdn]; decide)]
    have := sread_ok hy ((place fr ln a : Nat) : Int) hn (by rw [e1]; exact hcur _ (hpl a)) e2
    rw [e1] at this
    exact this
  have HVW : Hid (∀ a, view d fr ln a = if (Codec.parse (d.cur (place fr ln a))).2 = 0 then some (Codec.parse (d.cur (place fr ln a))).1 else none) := fun a => rfl
  have HPB : Hid (∀ a, (Codec.parse (d.cur (place fr ln a))).2 = 0 → (Codec.parse (d.cur (place fr ln a))).1.stamp ≤ 1099511627776 ∧ (Codec.parse (d.cur (place fr ln a))).1.mark ≤ 255 ∧ (Codec.parse (d.cur (place fr ln a))).1.data.length ≤ 44) := fun a => parse_bounds _
  have HFO := hide (fun m o wy hm => follows_any m o wy hm)
  generalize hG : view d fr ln = g at *
  have hln : ln ≤ 65536 := by omega
  clear hG ha hpl hcur hn hdn hm hfl
  obtain ⟨i0, hi, hz0, hz1, hz2⟩ := info_parts info_rec
  unfold AV at *
  obtain ⟨R, hR⟩ : ∃ R, Codec.scan g ln x false [] x = R := ⟨_, rfl⟩
  rw [hR]
  have HR := hide hR
  clear hR
  go_enter Tryd.func9, Tryd.ntmps9
  go_wp2_with fail
  refine (unhide HCH _ (h.later ((Below.refl _ _).alloc (Nat.le_refl _) _)).1).mono ?_
  rintro e w1 ⟨rfl, hb1⟩
  have hx1 : w1.heap[w.heap.size]? = some (.cells #[.int .i64 (fr : Int), .int .i64 (ln : Int)] 26 (0, 0)) := (hb1.block w.heap.size (by simp)).trans (heap_alloc_new w _)
  have hb : Below w.heap.size w w1 := ((Below.refl _ w).alloc (Nat.le_refl _) (.cells #[.int .i64 (fr : Int), .int .i64 (ln : Int)] 26)).trans (hb1.mono (by simp))
  have hlt1 := blt hx1
  obtain ⟨A, hA⟩ : ∃ A, w.heap.size = A := ⟨_, rfl⟩
  obtain ⟨B, hB⟩ : ∃ B, w1.heap.size = B := ⟨_, rfl⟩
  obtain ⟨w2, hw2⟩ : ∃ w2, w1.alloc (.cells #[.pointer none, .slice none 0 0] 69) = w2 := ⟨_, rfl⟩
  have p1A : w2.cell? ⟨A, 1, none⟩ = some (.int .i64 (ln : Int)) := by
    rw [← hw2, ← hA, bcell ((Below.heap_alloc w1 _ _ hlt1).trans hx1)]; rfl
  have HS1 : Hid (SR w w2 A B fr ln (.slice none 0 0) [] []) := by
    have hbA := hb.alloc hb.size (.cells #[.pointer none, .slice none 0 0] 69)
    rw [hw2] at hbA
    refine ⟨hbA, by rw [← hw2, ← hA]; exact (Below.heap_alloc w1 _ _ hlt1).trans hx1, Or.inl ⟨by rw [← hB]; exact hb.size, .slice none 0 0, by rw [← hw2, ← hB]; exact heap_alloc_new w1 _, World.ownsRowF_nil _ _ _ _, fun e => by cases e⟩, World.ownsRow_nil _ _ _ _⟩
  clear hb1 hx1 hb HCH hlt1
  go_wp2_with fail
  clear p1A hw2 hB hA
  go_loopw [27, 10, 12, 13] (fun i v o f wr => ∃ (k : Nat) (bo : Bool) (F : Nat) (rs : List Codec.Rec) (t : List UInt8), k ≤ ln ∧ i = .int .i64 k ∧ o = .bool bo ∧ f = .int .i64 (F : Int) ∧ Codec.scan g ln x false [] x = (rs ++ (Codec.scan g (ln - k) (x + k) bo t F).1, (Codec.scan g (ln - k) (x + k) bo t F).2) ∧ rs.length ≤ k ∧ t.length ≤ 44 * k ∧ SR w wr A B fr ln v rs t) (fun i _ _ _ _ => ln - (intOf i).toNat)
  case atStart =>
    refine ⟨0, false, x, [], [], Nat.zero_le _, rfl, rfl, rfl, ?_, Nat.le_refl _, Nat.le_refl _, unhide HS1⟩
    simp
  case round =>
    obtain ⟨k, bo, F, rs, t, hk, rfl, rfl, rfl, hsc, hrl, htl, hsr⟩ := hrel
    clear HS1
    obtain ⟨ao, c, rfl, hao⟩ := ownsRow_slice hsr.row
    have HSR := hide hsr
    have HSC := hide hsc
    have hA1 := bcell hsr.area 1
    have hA0 := bcell hsr.area 0
    simp only [List.getElem?_toArray, List.getElem?_cons_zero, List.getElem?_cons_succ] at hA0 hA1
    clear hao
    by_cases hlt : k < ln
    · have hki : (k : Int) < (ln : Int) := by omega
      obtain ⟨a, hax⟩ : ∃ a, x + k = a := ⟨_, rfl⟩
      obtain ⟨n', hn'⟩ : ∃ n', ln - k = n' + 1 := ⟨ln - k - 1, by omega⟩
      have hn2 : ln - (k + 1) = n' := by omega
      rw [hax] at HSC
      have hxa : (x : Int) + (k : Int) = (a : Int) := by omega
      rw [hn'] at HSC
      have ha40 : a ≤ 4398046511104 := by omega
      have HAX := hide hax
      have HN2 := hide hn2
      clear hsc hsr hax hn' hn2
      go_wp2_with fail
      refine (unhide HPL a _ ha40).mono ?_
      rintro e w3 ⟨rfl, hb3⟩
      have HS3 := hide ((unhide HSR).later hb3)
      clear hb3 hA0 hA1
      have hrd := unhide HRD a w3 (h.later (unhide HS3).low).1
      have hpb := unhide HPB a
      have hvw := unhide HVW a
      generalize Codec.parse (d.cur (place fr ln a)) = P at *
      generalize place fr ln a = pl at *
      obtain ⟨⟨n, m, dt⟩, pe⟩ := P
      unfold SV at hrd
      dsimp only at hrd hpb hvw
      have HRD3 := hide hrd
      clear hrd
      by_cases hpe : pe = 0
      · subst hpe
        obtain ⟨hn40, hm255, hd44⟩ := hpb rfl
        rw [if_pos rfl] at hvw
        have HVA := hide hvw
        clear hpb hvw
        go_wp2_with fail
        refine (unhide HRD3).mono ?_
        rintro e w4 ⟨rfl, hb4⟩
        obtain ⟨SB, hSB⟩ : ∃ SB, w4.heap.size = SB := ⟨_, rfl⟩
        obtain ⟨w5, hw5⟩ : ∃ w5, w4.alloc (.cells #[.int .i64 (n : Int), .int .u8 (m : Int), .string (S dt)] 48) = w5 := ⟨_, rfl⟩
        have hs4 := (unhide HS3).later hb4
        have hs5 : SR w w5 A B fr ln (.slice ao rs.length c) rs t := by rw [← hw5]; exact hs4.later ((Below.refl _ _).alloc (Nat.le_refl _) _)
        have hbx : w5.heap[SB]? = some (.cells #[.int .i64 (n : Int), .int .u8 (m : Int), .string (S dt)] 48 (0, 0)) := by rw [← hw5, ← hSB]; exact heap_alloc_new w4 _
        have q0 := bcell hbx 0
        have q1 := bcell hbx 1
        have q2 := bcell hbx 2
        simp only [List.getElem?_toArray, List.getElem?_cons_zero, List.getElem?_cons_succ] at q0 q1 q2
        have HS5 := hide hs5
        have HBX := hide hbx
        clear hb4 hs4 hs5 hbx HS3 HRD3 HSR
        by_cases hna : n = a
        · subst hna
          by_cases hfi : m ≤ 3 ∧ (m % 2 = 0 ↔ bo = true)
          · have HF := hide (fun wy => HFO m bo wy (by omega))
            rw [decide_eq_true hfi] at HF
            have hand := and_two m hfi.1
            have HFI : Hid (Codec.fits ⟨n, m, dt⟩ n bo) := ⟨rfl, hfi.1, hfi.2⟩
            have HBW := hide (bwrite w.heap.size B (Lib.byteCells t) (S dt) w5 (unhide HS5).bld (by rw [Lib.byteCells_length]; show t.length + dt.length ≤ _; omega) (unhide HS5).low.size)
            have hdl : (S dt).size = dt.length := rfl
            by_cases hm2 : m < 2
            · rw [if_pos hm2] at hand
              clear hfi hdl
              go_wp2_with fail
              refine (unhide HF _).mono ?_
              rintro e w6 ⟨rfl, rfl⟩
              go_wp2_with fail
              refine (unhide HBW).mono ?_
              rintro e w7 ⟨rfl, hbl, hlo, hot⟩
              have HS7 := hide ((unhide HS5).written dt hbl hlo hot)
              have hbx7 := hot SB _ (unhide HBX) (by intro e; cases e; obtain ⟨p, q, hB, _⟩ := isBuilderF_blk (unhide HS5).bld; rw [unhide HBX] at hB; simp at hB) (by intro c fz e; cases e)
              have z1 := bcell hbx7 1
              simp only [List.getElem?_toArray, List.getElem?_cons_zero, List.getElem?_cons_succ] at z1
              clear q0 q1 q2 hbl hlo hot hbx7 HBW HF
              go_wp2_with fail
              refine ⟨⟨k + 1, true, F, rs, t ++ dt, by omega, by simp, rfl, rfl, ?_, by omega, by rw [List.length_append]; omega, unhide HS7⟩, ?_⟩
              · rw [unhide HSC, Codec.scan_open (unhide HVA) (unhide HFI) hm2, unhide HN2, show x + (k + 1) = n + 1 by have := unhide HAX; omega]
              · simp [intOf]; omega
            · rw [if_neg hm2] at hand
              clear hfi hdl
              go_wp2_with fail
              refine (unhide HF _).mono ?_
              rintro e w6 ⟨rfl, rfl⟩
              go_wp2_with fail
              refine (unhide HBW).mono ?_
              rintro e w7 ⟨rfl, hbl, hlo, hot⟩
              have HS7 := hide ((unhide HS5).written dt hbl hlo hot)
              have hbx7 := hot SB _ (unhide HBX) (by intro e; cases e; obtain ⟨p, q, hB, _⟩ := isBuilderF_blk (unhide HS5).bld; rw [unhide HBX] at hB; simp at hB) (by intro c fz e; cases e)
              have z0 := bcell hbx7 0
              have z1 := bcell hbx7 1
              simp only [List.getElem?_toArray, List.getElem?_cons_zero, List.getElem?_cons_succ] at z0 z1
              have HBX7 := hide hbx7
              have hSBB : SB ≠ B := by
                rintro rfl
                obtain ⟨p, q, hB, _⟩ := isBuilderF_blk (unhide HS7).bld
                rw [hbx7] at hB
                simp at hB
              clear q0 q1 q2 hbl hlo hot hbx7 HBW HF hSB hw5 HS5 HBX
              have HS7D := hide ((unhide HS7).later (Below.refl w7.heap.size w7).drew)
              have HST := hide (bstring w.heap.size B (t ++ dt) w7.drew (unhide HS7D).bld (unhide HS7D).low.size)
              obtain ⟨T, hT⟩ : ∃ T, t ++ dt = T := ⟨_, rfl⟩
              rw [hT] at HST HS7D
              have HT := hide hT
              clear hT
              go_wp2_with fail
              go_region_law (first
                | (go_simp; go_at_call 27; refine (unhide HST).mono ?_; rintro e w8 ⟨rfl, hbl, hlo, hot⟩; have HS8 := hide ((unhide HS7D).kept T hbl hlo hot); have hbx8 := hot SB _ (unhide HBX7) (by intro e; cases e; exact hSBB rfl) (by intro c fz e; cases e); have y0 := bcell hbx8 0; simp only [List.getElem?_toArray, List.getElem?_cons_zero] at y0; have HBX8 := hide hbx8; clear hbl hlo hot hbx8)
                | (refine step_append_fresh rfl (.tmp 70) (.tmp 76) 38 rfl w.heap.size 32 i0 (.agg #[.int .i64 0, .int .i64 0, .string ⟨#[]⟩]) 3 32 under_recs hi hz0 hz1 hz2 rfl (by decide) (.slice ao rs.length c) rs.length (rcs rs) (by simp [Act.eval]) ((unhide HS8).row.alloc _) ⟨w8.heap.size, 0, none⟩ 1 1 [.int .i64 (F : Int), .int .i64 (n : Int), .string (S T)] (by simp [Act.eval]) rfl (fun j x hx => by exact cell_three_new _ _ _ _ _ j x hx) (fun u hu => by simp at hu; rcases hu with rfl | rfl | rfl <;> rfl) (by unfold maxLen; omega) (by omega) (by have := (unhide HS8).low.size; simp; omega) ?_; intro v' w9 hown' hgrow hfresh; have hs9 := ((unhide HS8).later ((Below.refl _ w8).alloc (Nat.le_refl _) _)).grown ⟨F, n, T⟩ hown' hgrow; have HS9 := hide hs9; have HBX9 : Hid (w9.heap[SB]? = some (.cells #[.int .i64 (n : Int), .int .u8 (m : Int), .string (S dt)] 48 (0, 0))) := (by exact (hgrow.block SB (by have := blt (unhide HBX8); simp; omega) (fun e => ownsRow_unlike (unhide HS8).row (unhide HBX8) (by decide) e.symm)).trans ((Below.heap_alloc w8 _ _ (blt (unhide HBX8))).trans (unhide HBX8))); obtain ⟨a1, c1, rfl, _⟩ := ownsRow_slice hown'; clear hown' hgrow hfresh hs9))
              all_goals
                clear z0 z1 y0 HS8 HBX8 HST HS7 HS7D HBX7
                obtain ⟨bp, bv, hbB, _⟩ := isBuilderF_blk (unhide HS9).bld
                have HRS := hide (breset B bp bv w9 hbB)
                clear hbB
                go_wp2_with fail
                refine (unhide HRS).mono ?_
                rintro e w10 ⟨rfl, rfl⟩
                have HS10 := hide (unhide HS9).reset
                have x0 : ((w9.setCell ⟨B, 0, none⟩ (.pointer none)).setCell ⟨B, 1, none⟩ (.slice none 0 0)).cell? ⟨SB, 0, none⟩ = some (.int .i64 (n : Int)) := by
                  have e : ((w9.setCell ⟨B, 0, none⟩ (.pointer none)).setCell ⟨B, 1, none⟩ (.slice none 0 0)).heap[SB]? = w9.heap[SB]? := by
                    rw [heap_setCell_other _ ⟨B, 1, none⟩ SB _ hSBB, heap_setCell_other _ ⟨B, 0, none⟩ SB _ hSBB]
                  rw [bcell (e.trans (unhide HBX9)) 0]; rfl
                generalize (w9.setCell ⟨B, 0, none⟩ (.pointer none)).setCell ⟨B, 1, none⟩ (.slice none 0 0) = w10 at *
                clear HRS HS9 HBX9
                go_wp2_with fail
                refine ⟨⟨k + 1, false, n + 1, rs ++ [⟨F, n, T⟩], [], by omega, by simp, rfl, by simp, ?_, by rw [List.length_append]; simp; omega, Nat.zero_le _, ?_⟩, ?_⟩
                · rw [unhide HSC, Codec.scan_whole (unhide HVA) (unhide HFI) hm2, unhide HN2, show x + (k + 1) = n + 1 by have := unhide HAX; omega, ← unhide HT]
                  simp
                · have := unhide HS10
                  simpa using this
                · simp [intOf]; omega
          · have HF := hide (fun wy => HFO m bo wy (by omega))
            rw [decide_eq_false hfi] at HF
            have hRR : R = (rs, F) := by
              rw [← unhide HR, unhide HSC, Codec.scan_not (unhide HVA) (fun hx => hfi hx.2)]
              simp
            have HRR := hide hRR
            clear hfi hRR
            go_wp2_with fail
            refine (unhide HF _).mono ?_
            rintro e w6 ⟨rfl, rfl⟩
            go_wp2_with fail
            go_ret3
            rw [unhide HRR]
            exact ⟨_, rfl, (unhide HS5).row, (unhide HS5).low⟩
        · have hne : ((n : Int) != (a : Int)) = true := by simp; omega
          have hRR : R = (rs, F) := by
            rw [← unhide HR, unhide HSC, Codec.scan_not (unhide HVA) (fun hx => hna hx.1)]
            simp
          have HRR := hide hRR
          clear hna hRR
          go_wp2_with fail
          go_ret3
          rw [unhide HRR]
          exact ⟨_, rfl, (unhide HS5).row, (unhide HS5).low⟩
      · have hpb0 : (pe == 0) = false := by simpa using hpe
        rw [if_neg hpe] at hvw
        have hRR : R = (rs, F) := by
          rw [← unhide HR, unhide HSC, Codec.scan_none hvw]
          simp
        have HRR := hide hRR
        rw [hpb0] at HRD3
        clear hRR hvw hpb hpb0 hpe
        go_wp2_with fail
        refine (unhide HRD3).mono ?_
        rintro e w4 ⟨rfl, hb4⟩
        have HS4 := hide ((unhide HS3).later hb4)
        clear hb4
        go_wp2_with fail
        go_ret3
        rw [unhide HRR]
        have h5 := (unhide HS4).later ((Below.refl _ w4).alloc (Nat.le_refl _) (.cells #[.int .i64 (n : Int), .int .u8 (m : Int), .string (S dt)] 48))
        exact ⟨_, rfl, h5.row, h5.low⟩
    · have hkl : k = ln := by omega
      have hRR : R = (rs, F) := by
        rw [← unhide HR, hsc, hkl, Nat.sub_self]
        simp [Codec.scan]
      have HRR := hide hRR
      have hki : ¬ (k : Int) < (ln : Int) := by omega
      clear hRR hkl hsc hsr hA0 hA1
      go_wp2_with fail
      go_ret3
      rw [unhide HRR]
      exact ⟨_, rfl, (unhide HSR).row, (unhide HSR).low⟩
end Go.Proofs.YtbmhmljbpjimoaaDoor
/- The contract of a record's sector. -/
namespace Go.Proofs.YtbmhmljbpjimoaaDoor
open Go.RowKit
set_option linter.unusedVariables false
set_option maxRecDepth 100000

def RC (r : Codec.Rec) : Value := .agg #[.int .i64 (r.first : Int), .int .i64 (r.last : Int), .string (S r.text)]
theorem S_cut (l : List UInt8) (a b : Nat) : (S l).extract a b = S ((l.drop a).take (b - a)) := by
  apply ByteArray.ext
  apply Array.ext'
  simp [S]
theorem S_piece (s : List UInt8) (j : Nat) (h : 44 * j ≤ s.length) : (S s).extract (44 * j) (min (44 * j + 44) s.length) = S (Codec.piece s j) := by
  rw [S_cut]
  unfold Codec.piece
  congr 1
  by_cases h1 : 44 * j + 44 ≤ s.length
  · rw [Nat.min_eq_left h1, show 44 * j + 44 - 44 * j = 44 by omega]
  · rw [Nat.min_eq_right (by omega), List.take_of_length_le (by rw [List.length_drop]; exact Nat.le_refl _), List.take_of_length_le (by rw [List.length_drop]; omega)]

set_option maxHeartbeats 1600000 in
theorem sector_any (s : List UInt8) (x j : Nat) (w : World) (hj : j < Codec.cost s.length) (hx : x ≤ 1099511627776) (hs : s.length ≤ 1099511627776) :
    Calls Tryd.prog 22 #[.agg #[.int .i64 (x : Int), .int .i64 ((x + Codec.cost s.length - 1 : Nat) : Int), .string (S s)], .int .i64 ((x + j : Nat) : Int)] w fun e w' => e = .returned (SV (Codec.sec s x j)) ∧ Below w.heap.size w w' := by
  have hlow : 44 * j ≤ s.length := by
    by_cases h : 1 < Codec.cost s.length
    · have := Codec.cost_low s.length h; omega
    · omega
  have hbig : Codec.cost s.length ≤ s.length + 1 := Codec.cost_le _ _ (by omega) (by omega)
  have hsz : (S s).size = s.length := rfl
  have hcut := S_piece s j hlow
  have hmk : Codec.mk s j = (if j = 0 then 1 else 0) + (if j + 1 = Codec.cost s.length then 2 else 0) := rfl
  unfold SV Codec.sec
  dsimp only
  generalize Codec.piece s j = p at *
  generalize Codec.mk s j = m at *
  generalize Codec.cost s.length = c at *
  obtain ⟨q, hq⟩ : ∃ q, x + c - 1 = q := ⟨_, rfl⟩
  obtain ⟨a, ha⟩ : ∃ a, x + j = a := ⟨_, rfl⟩
  obtain ⟨n, hn⟩ : ∃ n, s.length = n := ⟨_, rfl⟩
  rw [hq, ha]
  rw [hn] at hcut hlow hbig hs hsz
  obtain ⟨y, hy⟩ : ∃ y, 44 * j = y := ⟨_, rfl⟩
  rw [hy] at hcut hlow
  have HMK := hide hmk
  have hX : (S s).extract y (min ((y : Int) + 44) (n : Int)).toNat = S p := by
    rw [← hcut, show (min ((y : Int) + 44) (n : Int)).toNat = min (y + 44) n by omega]
  have HX := hide hX
  have o1 : bits BinOp.or IntKind.u8 0 1 = 1 := rfl
  have o2 : bits BinOp.or IntKind.u8 0 2 = 2 := rfl
  have o3 : bits BinOp.or IntKind.u8 1 2 = 3 := rfl
  clear hX hcut hn hmk
  by_cases h1 : j = 0
  · subst h1
    have hax : a = x := by omega
    have hy0 : y = 0 := by omega
    rw [if_pos rfl] at HMK
    subst hax hy0
    obtain ⟨z, hz⟩ : ∃ z : Nat, min (44 : Int) (n : Int) = (z : Int) := ⟨(min (44 : Int) (n : Int)).toNat, by omega⟩
    have HX0 : Hid ((S s).extract 0 z = S p) := by
      have := unhide HX
      rw [show ((0 : Nat) : Int) + 44 = 44 from rfl, hz, Int.toNat_natCast] at this
      exact this
    have hz2 : (z : Int) ≤ (n : Int) := by omega
    by_cases h2 : 0 + 1 = c
    · rw [if_pos h2] at HMK
      have hqx : q = a := by omega
      subst hqx
      clear h2 hq ha hj hlow hy
      go_enter Tryd.func22, Tryd.ntmps22
      go_wp2_with fail
      rw [unhide HMK, ← unhide HX0]
      exact bodyPost_ret (v := .agg #[.int .i64 (q : Int), .int .u8 3, .string ((S s).extract 0 z)]) (by simp [results, Tryd.results22, go_sem]) rfl ⟨rfl, (((Below.refl _ _).alloc (Nat.le_refl _) _).alloc (by simp) _).alloc (by simp; omega) _⟩
    · rw [if_neg h2] at HMK
      have hne : ¬ (a : Int) = (q : Int) := by omega
      clear h2 hq ha hj hlow hy
      go_enter Tryd.func22, Tryd.ntmps22
      go_wp2_with fail
      rw [unhide HMK, ← unhide HX0]
      exact bodyPost_ret (v := .agg #[.int .i64 (a : Int), .int .u8 1, .string ((S s).extract 0 z)]) (by simp [results, Tryd.results22, go_sem]) rfl ⟨rfl, (((Below.refl _ _).alloc (Nat.le_refl _) _).alloc (by simp) _).alloc (by simp; omega) _⟩
  · rw [if_neg h1] at HMK
    have hne1 : ¬ (a : Int) = (x : Int) := by omega
    have e1 : wrap64 ((a : Int) - (x : Int)) = (j : Int) := by unfold wrap64; omega
    have e2 : wrap64 ((j : Int) * 44) = (y : Int) := by unfold wrap64; omega
    have e3 : wrap64 ((y : Int) + 44) = (y : Int) + 44 := by unfold wrap64; omega
    obtain ⟨z, hz⟩ : ∃ z : Nat, min ((y : Int) + 44) (n : Int) = (z : Int) := ⟨(min ((y : Int) + 44) (n : Int)).toNat, by omega⟩
    rw [hz, Int.toNat_natCast] at HX
    have hz1 : (y : Int) ≤ (z : Int) := by omega
    have hz2 : (z : Int) ≤ (n : Int) := by omega
    by_cases h2 : j + 1 = c
    · rw [if_pos h2] at HMK
      have hqx : q = a := by omega
      subst hqx
      clear h2 hq ha hj hlow h1 hbig hy
      go_enter Tryd.func22, Tryd.ntmps22
      go_wp2_with fail
      rw [unhide HMK, ← unhide HX]
      exact bodyPost_ret (v := .agg #[.int .i64 (q : Int), .int .u8 2, .string ((S s).extract y z)]) (by simp [results, Tryd.results22, go_sem]) rfl ⟨rfl, (((Below.refl _ _).alloc (Nat.le_refl _) _).alloc (by simp) _).alloc (by simp; omega) _⟩
    · rw [if_neg h2] at HMK
      have hne : ¬ (a : Int) = (q : Int) := by omega
      clear h2 hq ha hj hlow h1 hbig hy
      go_enter Tryd.func22, Tryd.ntmps22
      go_wp2_with fail
      rw [unhide HMK, ← unhide HX]
      exact bodyPost_ret (v := .agg #[.int .i64 (a : Int), .int .u8 0, .string ((S s).extract y z)]) (by simp [results, Tryd.results22, go_sem]) rfl ⟨rfl, (((Below.refl _ _).alloc (Nat.le_refl _) _).alloc (by simp) _).alloc (by simp; omega) _⟩
end Go.Proofs.YtbmhmljbpjimoaaDoor
/- The contracts of Open and of the law's area and begin. -/
namespace Go.Proofs.YtbmhmljbpjimoaaDoor
open Go.RowKit
set_option linter.unusedVariables false
set_option maxRecDepth 100000

structure LogAt (base : Nat) (w : World) (b lb : Nat) (d : Dev) (fr ln head next : Int) : Prop where
  dev : DevAt base w b d
  lo : base ≤ lb
  log : w.heap[lb]? = some (WL b fr ln head next)
  far : DFor w b lb

set_option maxHeartbeats 1600000 in
theorem open_ok {base : Nat} {w : World} {b : Nat} {d : Dev} (h : DevAt base w b d) (fr ln next : Int) (hm : d.L.length ≤ 65536) (hln : ln ≤ 9223372036854775807) (ha : areaE d fr ln = 0) (h1 : 1 ≤ next) (h2 : next ≤ 1099511627776) (hB : base ≤ w.heap.size) :
    Calls Tryd.prog 19 #[.pointer (some ⟨b, 0, none⟩), AV fr ln, .int .i64 next] w fun e w' => ∃ lb, e = .returned (.tuple #[.pointer (some ⟨lb, 0, none⟩), .int .i64 0]) ∧ w.heap.size ≤ lb ∧ LogAt base w' b lb d fr ln next next ∧ Below w.heap.size w w' := by
  have HCH := hide (fun wy (hb : DevAt base wy b d) => acheck_any hb fr ln hm hln)
  have HST := hide (fun wy => isStamp_any next wy)
  rw [ha] at HCH
  rw [decide_eq_true (show 1 ≤ next ∧ next ≤ 1099511627776 from ⟨h1, h2⟩)] at HST
  clear ha h1 h2
  unfold AV at *
  go_enter Tryd.func19, Tryd.ntmps19
  go_wp2_with fail
  refine (unhide HCH _ (h.later ((Below.refl _ _).alloc (Nat.le_refl _) _)).1).mono ?_
  rintro e w1 ⟨rfl, hb1⟩
  have hx1 : w1.heap[w.heap.size]? = some (.cells #[.int .i64 fr, .int .i64 ln] 26 (0, 0)) := (hb1.block w.heap.size (by simp)).trans (heap_alloc_new w _)
  have hb : Below w.heap.size w w1 := ((Below.refl _ w).alloc (Nat.le_refl _) (.cells #[.int .i64 fr, .int .i64 ln] 26)).trans (hb1.mono (by simp))
  have HB := hide hb
  have p0 := bcell hx1 0
  have p1 := bcell hx1 1
  simp only [List.getElem?_toArray, List.getElem?_cons_zero, List.getElem?_cons_succ] at p0 p1
  clear hb1 hx1 hb HCH
  go_wp2_with fail
  refine (unhide HST _).mono ?_
  rintro e w2 ⟨rfl, rfl⟩
  go_wp2_with fail
  go_ret2
  have hb := unhide HB
  have hd1 := (h.later hb).1
  have hb2 : Below w2.heap.size w2 (w2.alloc (WL b fr ln next next)) := (Below.refl _ _).alloc (Nat.le_refl _) _
  refine ⟨w2.heap.size, rfl, hb.size, ⟨(hd1.later hb2).1, ?_, heap_alloc_new w2 _, ?_⟩, hb.alloc hb.size _⟩
  · have := hb.size; omega
  · exact (DFor.new hd1 (Nat.le_refl _)).same (hb2.block b hd1.lt)

set_option maxHeartbeats 1600000 in
theorem open_no {base : Nat} {w : World} {b : Nat} {d : Dev} (h : DevAt base w b d) (fr ln next : Int) (hm : d.L.length ≤ 65536) (hln : ln ≤ 9223372036854775807) (hE : (if areaE d fr ln ≠ 0 then areaE d fr ln else if 1 ≤ next ∧ next ≤ 1099511627776 then 0 else 18) ≠ 0) :
    Calls Tryd.prog 19 #[.pointer (some ⟨b, 0, none⟩), AV fr ln, .int .i64 next] w fun e w' => e = .returned (.tuple #[.pointer none, .int .i64 (if areaE d fr ln ≠ 0 then areaE d fr ln else if 1 ≤ next ∧ next ≤ 1099511627776 then 0 else 18)]) ∧ Below w.heap.size w w' := by
  have HCH := hide (fun wy (hb : DevAt base wy b d) => acheck_any hb fr ln hm hln)
  have HST := hide (fun wy => isStamp_any next wy)
  unfold AV at *
  by_cases ha : areaE d fr ln = 0
  · rw [if_neg (by simpa using ha)] at hE ⊢
    by_cases hs : 1 ≤ next ∧ next ≤ 1099511627776
    · rw [if_pos hs] at hE; exact absurd rfl hE
    rw [if_neg hs]
    rw [ha] at HCH
    rw [decide_eq_false hs] at HST
    clear ha hs hE
    go_enter Tryd.func19, Tryd.ntmps19
    go_wp2_with fail
    refine (unhide HCH _ (h.later ((Below.refl _ _).alloc (Nat.le_refl _) _)).1).mono ?_
    rintro e w1 ⟨rfl, hb1⟩
    have HB : Hid (Below w.heap.size w w1) := ((Below.refl _ w).alloc (Nat.le_refl _) (.cells #[.int .i64 fr, .int .i64 ln] 26)).trans (hb1.mono (by simp))
    clear hb1 HCH
    go_wp2_with fail
    refine (unhide HST _).mono ?_
    rintro e w2 ⟨rfl, rfl⟩
    go_wp2_with fail
    go_ret2
    exact ⟨rfl, unhide HB⟩
  · rw [if_pos ha]
    generalize areaE d fr ln = z at *
    clear hE HST
    go_enter Tryd.func19, Tryd.ntmps19
    go_wp2_with fail
    refine (unhide HCH _ (h.later ((Below.refl _ _).alloc (Nat.le_refl _) _)).1).mono ?_
    rintro e w1 ⟨rfl, hb1⟩
    have HB : Hid (Below w.heap.size w w1) := ((Below.refl _ w).alloc (Nat.le_refl _) (.cells #[.int .i64 fr, .int .i64 ln] 26)).trans (hb1.mono (by simp))
    clear hb1 HCH
    go_wp2_with fail
    go_ret2
    exact ⟨rfl, unhide HB⟩

set_option maxHeartbeats 1600000 in
theorem begin_log (fr ln next : Int) (w : World) (hln : ln ≤ 9223372036854775807) (ha : areaE (Dev.new 24) fr ln = 0) (h1 : 1 ≤ next) (h2 : next ≤ 1099511627776) :
    Calls Tryd.prog 5 #[AV fr ln, .int .i64 next] w fun e w' => ∃ b lb, e = .returned (.tuple #[.pointer (some ⟨b, 0, none⟩), .pointer (some ⟨lb, 0, none⟩), .bool true]) ∧ LogAt w.heap.size w' b lb (Dev.new 24) fr ln next next ∧ Below w.heap.size w w' := by
  have HNEW := hide (fun wy => new_ok 24 wy (by omega) (by omega))
  have HOP := hide (fun b base wy (hb : DevAt base wy b (Dev.new 24)) (hB : base ≤ wy.heap.size) => open_ok hb fr ln next (by simp [Dev.new]) hln ha h1 h2 hB)
  clear ha h1 h2
  unfold AV at *
  go_enter Tryd.func5, Tryd.ntmps5
  go_wp2_with fail
  refine (unhide HNEW _).mono ?_
  rintro e w1 ⟨b, rfl, hd1, hb1⟩
  have hx1 : w1.heap[w.heap.size]? = some (.cells #[.int .i64 fr, .int .i64 ln] 26 (0, 0)) := (hb1.block w.heap.size (by simp)).trans (heap_alloc_new w _)
  have hb : Below w.heap.size w w1 := ((Below.refl _ w).alloc (Nat.le_refl _) (.cells #[.int .i64 fr, .int .i64 ln] 26)).trans (hb1.mono (by simp))
  have HB := hide hb
  have HD : Hid (DevAt w.heap.size w1 b (Dev.new 24)) := by
    obtain ⟨sv, lv, h⟩ := hd1
    exact ⟨sv, lv, by have := h.lo; simp at this; omega, h.blk, ownsRow_less h.sec (by simp), ownsRow_less h.loo (by simp)⟩
  have p0 := bcell hx1 0
  have p1 := bcell hx1 1
  simp only [List.getElem?_toArray, List.getElem?_cons_zero, List.getElem?_cons_succ] at p0 p1
  clear hb1 hx1 hb hd1 HNEW
  go_wp2_with fail
  refine (unhide HOP b w.heap.size w1 (unhide HD) (unhide HB).size).mono ?_
  rintro e w2 ⟨lb, rfl, hlb, hl2, hb2⟩
  have HL := hide hl2
  have HB2 := hide ((unhide HB).trans (hb2.mono (unhide HB).size))
  clear hlb hl2 hb2 HOP
  go_wp2_with fail
  refine bodyPost_ret (v := .tuple #[.pointer (some ⟨b, 0, none⟩), .pointer (some ⟨lb, 0, none⟩), .bool true]) (by simp [results, Tryd.results5, go_sem]) rfl ?_
  exact ⟨b, lb, rfl, unhide HL, unhide HB2⟩
end Go.Proofs.YtbmhmljbpjimoaaDoor
/- The contract of Append. -/
namespace Go.Proofs.YtbmhmljbpjimoaaDoor
open Go.RowKit
set_option linter.unusedVariables false
set_option maxRecDepth 100000

/- The sectors of a text from its piece j on, written one behind the other. -/
def Dev.puts (fr ln : Nat) (s : List UInt8) (x : Nat) : Nat → Nat → Dev → Dev × Int
  | 0, _, d => (d, 0)
  | n + 1, j, d => if d.writeE ((place fr ln (x + j) : Nat) : Int) (Codec.secText (Codec.sec s x j)) ≠ 0 then (d.write ((place fr ln (x + j) : Nat) : Int) (Codec.secText (Codec.sec s x j)), d.writeE ((place fr ln (x + j) : Nat) : Int) (Codec.secText (Codec.sec s x j)))
    else Dev.puts fr ln s x n (j + 1) (d.write ((place fr ln (x + j) : Nat) : Int) (Codec.secText (Codec.sec s x j)))

theorem write_grows (d : Dev) (i : Int) (s : List UInt8) : (d.write i s).left ≤ d.left ∧ (d.write i s).calls ≤ d.calls + 1 ∧ (d.write i s).W.length ≤ d.W.length + 1 := by
  unfold Dev.write
  by_cases h1 : d.no i ∨ 64 < s.length
  · rw [if_pos h1]; exact ⟨Nat.le_refl _, by omega, by omega⟩
  · rw [if_neg h1]
    unfold Dev.begin
    by_cases h2 : d.out
    · rw [if_pos h2, if_pos h2]; exact ⟨Nat.le_refl _, Nat.le_succ _, Nat.le_succ _⟩
    · rw [if_neg h2, if_neg h2]
      refine ⟨?_, Nat.le_refl _, by simp⟩
      show (if d.armed then d.left - 1 else d.left) ≤ d.left
      split <;> omega

structure LStep (b lb : Nat) (w w' : World) : Prop where
  os : w'.os = w.os
  tape : w'.tape = w.tape
  output : w'.output = w.output
  size : w.heap.size ≤ w'.heap.size
  keep : ∀ k, k < w.heap.size → k ≠ lb → DFor w b k → w'.heap[k]? = w.heap[k]? ∧ DFor w' b k
theorem LStep.refl (b lb : Nat) (w : World) : LStep b lb w w := ⟨rfl, rfl, rfl, Nat.le_refl _, fun _ _ _ h => ⟨rfl, h⟩⟩
theorem LStep.trans {b lb : Nat} {u v w : World} (h : LStep b lb u v) (k : LStep b lb v w) : LStep b lb u w :=
  ⟨k.os.trans h.os, k.tape.trans h.tape, k.output.trans h.output, Nat.le_trans h.size k.size, fun i hi hn hf => by
    obtain ⟨e1, f1⟩ := h.keep i hi hn hf
    obtain ⟨e2, f2⟩ := k.keep i (by have := h.size; omega) hn f1
    exact ⟨e2.trans e1, f2⟩⟩
theorem LStep.of {b lb : Nat} {u v : World} (h : DStep b u v) : LStep b lb u v := ⟨h.os, h.tape, h.output, h.size, fun k hk _ hf => h.keep k hk hf⟩

section
variable {base : Nat} {w w' : World} {b lb : Nat} {d : Dev} {fr ln head next : Int}
theorem LogAt.later (h : LogAt base w b lb d fr ln head next) (hb : Below w.heap.size w w') : LogAt base w' b lb d fr ln head next ∧ LStep b lb w w' := by
  obtain ⟨h1, h2⟩ := h.dev.later hb
  exact ⟨⟨h1, h.lo, (hb.block lb (block_lt h.log)).trans h.log, (h2.keep lb (block_lt h.log) h.far).2⟩, LStep.of h2⟩
theorem LogAt.step (h : LogAt base w b lb d fr ln head next) {d' : Dev} (hd : DevAt base w' b d') (hs : DStep b w w') : LogAt base w' b lb d' fr ln head next :=
  ⟨hd, h.lo, (hs.keep lb (block_lt h.log) h.far).1.trans h.log, (hs.keep lb (block_lt h.log) h.far).2⟩
theorem LStep.below (h : LStep b lb w w') (hl : LogAt base w b lb d fr ln head next) (hB : base ≤ w.heap.size) : Below base w w' :=
  ⟨h.os, h.tape, h.output, h.size, fun k hk => (h.keep k (by omega) (by have := hl.lo; omega) (DFor.of_lt hl.dev hk)).1⟩
theorem dev_setOther (h : DevAt base w b d) {N : Nat} (hf : DFor w b N) (k : Nat) (v : Value) : DevAt base (w.setCell ⟨N, k, none⟩ v) b d ∧ DFor (w.setCell ⟨N, k, none⟩ v) b N ∧ ∀ j, DFor w b j → DFor (w.setCell ⟨N, k, none⟩ v) b j := by
  obtain ⟨sv, lv, h⟩ := h
  have ho : ∀ j, j ≠ N → (w.setCell ⟨N, k, none⟩ v).heap[j]? = w.heap[j]? := fun j hj => heap_setCell_other w ⟨N, k, none⟩ j v hj
  have hb := ho b (Ne.symm hf.ne)
  refine ⟨⟨sv, lv, h.same hb (fun j hj => ho j ?_) (fun j hj => ho j ?_)⟩, hf.same hb, fun j hj => hj.same hb⟩
  · rintro rfl; exact hf.sec sv h.c0 hj
  · rintro rfl; exact hf.loo lv h.c1 hj
theorem LogAt.setNext (h : LogAt base w b lb d fr ln head next) (q : Int) : LogAt base (w.setCell ⟨lb, 4, none⟩ (.int .i64 q)) b lb d fr ln head q ∧ LStep b lb w (w.setCell ⟨lb, 4, none⟩ (.int .i64 q)) := by
  obtain ⟨h1, h2, h3⟩ := dev_setOther h.dev h.far 4 (.int .i64 q)
  exact ⟨⟨h1, h.lo, wl_next h.log q, h2⟩, rfl, rfl, rfl, by simp [World.setCell], fun k hk hn hf => ⟨heap_setCell_other w ⟨lb, 4, none⟩ k _ hn, h3 k hf⟩⟩
theorem LogAt.setHead (h : LogAt base w b lb d fr ln head next) (q : Int) : LogAt base (w.setCell ⟨lb, 3, none⟩ (.int .i64 q)) b lb d fr ln q next ∧ LStep b lb w (w.setCell ⟨lb, 3, none⟩ (.int .i64 q)) := by
  obtain ⟨h1, h2, h3⟩ := dev_setOther h.dev h.far 3 (.int .i64 q)
  exact ⟨⟨h1, h.lo, wl_head h.log q, h2⟩, rfl, rfl, rfl, by simp [World.setCell], fun k hk hn hf => ⟨heap_setCell_other w ⟨lb, 3, none⟩ k _ hn, h3 k hf⟩⟩
end

def R0 : Value := .agg #[.int .i64 0, .int .i64 0, .string ⟨#[]⟩]
set_option maxHeartbeats 1600000 in
theorem append_full {base : Nat} {w : World} {b lb : Nat} {d : Dev} {fr ln head x : Nat} (h : LogAt base w b lb d fr ln head x) (s : List UInt8) (hs : s.length ≤ 1099511627776) (h1 : head ≤ x) (h2 : x ≤ 4398046511104) (h3 : ln ≤ 65536) (hfull : ln < x - head + Codec.cost s.length) :
    Calls Tryd.prog 6 #[.pointer (some ⟨lb, 0, none⟩), .string (S s)] w fun e w' => e = .returned (.tuple #[R0, .int .i64 13]) ∧ Below w.heap.size w w' := by
  have HC := hide (fun wy => wcost_any s.length wy hs)
  have hbig : Codec.cost s.length ≤ s.length + 1 := Codec.cost_le _ _ (by omega) (by omega)
  have hsz : (S s).size = s.length := rfl
  obtain ⟨w0, hw0⟩ : ∃ w0, w.alloc (.cells #[.int .i64 0, .int .i64 0, .string ⟨#[]⟩] 32) = w0 := ⟨_, rfl⟩
  have hb0 : Below w.heap.size w w0 := by rw [← hw0]; exact (Below.refl _ _).alloc (Nat.le_refl _) _
  have hz0 : w0.heap[w.heap.size]? = some (.cells #[.int .i64 0, .int .i64 0, .string ⟨#[]⟩] 32 (0, 0)) := by rw [← hw0]; exact heap_alloc_new w _
  have HFR := hide (free_any (h.later hb0).1.log (by omega) (by omega) (by omega) (by omega) (by omega))
  generalize Codec.cost s.length = c at *
  generalize s.length = n at *
  have hgt : (ln : Int) - ((x : Int) - (head : Int)) < (c : Int) := by omega
  generalize (ln : Int) - ((x : Int) - (head : Int)) = f at *
  have HB0 := hide hb0
  have HZ0 := hide hz0
  clear hfull h hb0 hz0
  go_enter Tryd.func6, Tryd.ntmps6
  go_wp2_with fail
  refine (unhide HC _).mono ?_
  rintro e w1 ⟨rfl, rfl⟩
  go_wp2_with fail
  refine (unhide HFR).mono ?_
  rintro e w2 ⟨rfl, nq, rfl⟩
  obtain ⟨M, hM⟩ : ∃ M, w.heap.size = M := ⟨_, rfl⟩
  have hz : (w1.drewN nq).heap[M]? = some (.cells #[.int .i64 0, .int .i64 0, .string ⟨#[]⟩] 32 (0, 0)) := by rw [← hM]; exact unhide HZ0
  have c0 := bcell hz 0
  have c1 := bcell hz 1
  have c2 := bcell hz 2
  have f0 := bfroz hz 0
  have f1 := bfroz hz 1
  have f2 := bfroz hz 2
  simp only [List.getElem?_toArray, List.getElem?_cons_zero, List.getElem?_cons_succ] at c0 c1 c2
  have HBX : Hid (Below M w (w1.drewN nq)) := by rw [← hM]; exact w_below_drewN (unhide HB0) nq
  have HZ := hide hz
  generalize w1.drewN nq = w2 at *
  clear HC HFR HB0 HZ0 hw0 hz
  go_wp2_with fail
  have h9 := set3 (unhide HZ) (.int .i64 0) (.int .i64 0) (.string ⟨#[]⟩)
  have d0 := bcell h9 0
  have d1 := bcell h9 1
  have d2 := bcell h9 2
  simp only [List.getElem?_toArray, List.getElem?_cons_zero, List.getElem?_cons_succ] at d0 d1 d2
  have hb9 := ((((unhide HBX).setCell (p := ⟨M, 0, none⟩) (Nat.le_refl _) (.int .i64 0)).setCell (p := ⟨M, 1, none⟩) (Nat.le_refl _) (.int .i64 0)).setCell (p := ⟨M, 2, none⟩) (Nat.le_refl _) (.string ⟨#[]⟩))
  exact bodyPost_ret (v := .tuple #[R0, .int .i64 13]) (by simp [results, Tryd.results6, go_sem, d0, d1, d2, R0]) rfl ⟨rfl, by rw [hM]; exact hb9⟩
end Go.Proofs.YtbmhmljbpjimoaaDoor
/- The contract of an Append that fits. -/
namespace Go.Proofs.YtbmhmljbpjimoaaDoor
open Go.RowKit
set_option linter.unusedVariables false
set_option maxRecDepth 100000

/- The worlds of Append's loop: the device is written, all else stands. -/
structure AS (base : Nat) (w wr : World) (b lb Z RB : Nat) (D : Dev) (fr ln head x q : Nat) (nx : Int) (s : List UInt8) : Prop where
  log : LogAt base wr b lb D fr ln head nx
  stp : LStep b lb w wr
  res : wr.heap[Z]? = some (.cells #[.int .i64 0, .int .i64 0, .string ⟨#[]⟩] 32 (0, 0))
  zf : DFor wr b Z
  rbx : wr.heap[RB]? = some (.cells #[.int .i64 (x : Int), .int .i64 (q : Int), .string (S s)] 32 (0, 0))
  rf : DFor wr b RB
  zlo : w.heap.size ≤ Z
  rlo : w.heap.size ≤ RB
section
variable {base : Nat} {w wr w' : World} {b lb Z RB : Nat} {D D' : Dev} {fr ln head x q : Nat} {nx : Int} {s : List UInt8}
theorem AS.step (h : AS base w wr b lb Z RB D fr ln head x q nx s) (hd : DevAt base w' b D') (hs : DStep b wr w') : AS base w w' b lb Z RB D' fr ln head x q nx s := by
  obtain ⟨e1, f1⟩ := hs.keep Z (block_lt h.res) h.zf
  obtain ⟨e2, f2⟩ := hs.keep RB (block_lt h.rbx) h.rf
  exact ⟨h.log.step hd hs, h.stp.trans (LStep.of hs), e1.trans h.res, f1, e2.trans h.rbx, f2, h.zlo, h.rlo⟩
theorem AS.later (h : AS base w wr b lb Z RB D fr ln head x q nx s) (hb : Below wr.heap.size wr w') : AS base w w' b lb Z RB D fr ln head x q nx s := h.step (h.log.dev.later hb).1 (h.log.dev.later hb).2
theorem AS.cells (h : AS base w wr b lb Z RB D fr ln head x q nx s) : (wr.cell? ⟨lb, 0, none⟩ = some (.pointer (some ⟨b, 0, none⟩)) ∧ wr.cell? ⟨lb, 1, none⟩ = some (.int .i64 (fr : Int)) ∧ wr.cell? ⟨lb, 2, none⟩ = some (.int .i64 (ln : Int)) ∧ wr.cell? ⟨lb, 3, none⟩ = some (.int .i64 (head : Int)) ∧ wr.cell? ⟨lb, 4, none⟩ = some (.int .i64 nx)) ∧ wr.cell? ⟨RB, 0, none⟩ = some (.int .i64 (x : Int)) ∧ wr.cell? ⟨RB, 1, none⟩ = some (.int .i64 (q : Int)) ∧ wr.cell? ⟨RB, 2, none⟩ = some (.string (S s)) :=
  ⟨wl_cells h.log.log, by rw [bcell h.rbx]; rfl, by rw [bcell h.rbx]; rfl, by rw [bcell h.rbx]; rfl⟩
theorem AS.zero (h : AS base w wr b lb Z RB D fr ln head x q nx s) : wr.cell? ⟨Z, 0, none⟩ = some (.int .i64 0) ∧ wr.cell? ⟨Z, 1, none⟩ = some (.int .i64 0) ∧ wr.cell? ⟨Z, 2, none⟩ = some (.string ⟨#[]⟩) ∧ wr.frozen? ⟨Z, 0, none⟩ = false ∧ wr.frozen? ⟨Z, 1, none⟩ = false ∧ wr.frozen? ⟨Z, 2, none⟩ = false :=
  ⟨by rw [bcell h.res]; rfl, by rw [bcell h.res]; rfl, by rw [bcell h.res]; rfl, bfroz h.res 0, bfroz h.res 1, bfroz h.res 2⟩
theorem AS.fill (h : AS base w wr b lb Z RB D fr ln head x q nx s) (u v z : Value) :
    LogAt base (((wr.setCell ⟨Z, 0, none⟩ u).setCell ⟨Z, 1, none⟩ v).setCell ⟨Z, 2, none⟩ z) b lb D fr ln head nx ∧ LStep b lb w (((wr.setCell ⟨Z, 0, none⟩ u).setCell ⟨Z, 1, none⟩ v).setCell ⟨Z, 2, none⟩ z) := by
  have ho : ∀ k, k ≠ Z → (((wr.setCell ⟨Z, 0, none⟩ u).setCell ⟨Z, 1, none⟩ v).setCell ⟨Z, 2, none⟩ z).heap[k]? = wr.heap[k]? := fun k hk => by
    rw [heap_setCell_other _ ⟨Z, 2, none⟩ k _ hk, heap_setCell_other _ ⟨Z, 1, none⟩ k _ hk, heap_setCell_other _ ⟨Z, 0, none⟩ k _ hk]
  have hlz : lb ≠ Z := by
    rintro rfl
    have h1 := h.log.log
    rw [h.res] at h1
    simp [WL] at h1
  obtain ⟨d1, f1, k1⟩ := dev_setOther h.log.dev h.zf 0 u
  obtain ⟨d2, f2, k2⟩ := dev_setOther d1 f1 1 v
  obtain ⟨d3, f3, k3⟩ := dev_setOther d2 f2 2 z
  refine ⟨⟨d3, h.log.lo, (ho lb hlz).trans h.log.log, k3 _ (k2 _ (k1 _ h.log.far))⟩, h.stp.os, h.stp.tape, h.stp.output, by simpa [World.setCell] using h.stp.size, fun k hk hn hf => ?_⟩
  obtain ⟨e, f⟩ := h.stp.keep k hk hn hf
  exact ⟨(ho k (by have := h.zlo; omega)).trans e, k3 _ (k2 _ (k1 _ f))⟩
theorem AS.ne (h : AS base w wr b lb Z RB D fr ln head x q nx s) : lb ≠ Z ∧ lb ≠ RB := by
  refine ⟨?_, ?_⟩
  · rintro rfl
    have h1 := h.log.log
    rw [h.res] at h1
    simp [WL] at h1
  · rintro rfl
    have h1 := h.log.log
    rw [h.rbx] at h1
    simp [WL] at h1
theorem AS.next (h : AS base w wr b lb Z RB D fr ln head x q nx s) (y : Int) : AS base w (wr.setCell ⟨lb, 4, none⟩ (.int .i64 y)) b lb Z RB D fr ln head x q y s := by
  obtain ⟨h1, h2⟩ := h.log.setNext y
  obtain ⟨e1, e2⟩ := h.ne
  obtain ⟨z1, z2⟩ := h2.keep Z (block_lt h.res) (Ne.symm e1) h.zf
  obtain ⟨r1, r2⟩ := h2.keep RB (block_lt h.rbx) (Ne.symm e2) h.rf
  exact ⟨h1, h.stp.trans h2, z1.trans h.res, z2, r1.trans h.rbx, r2, h.zlo, h.rlo⟩
end

set_option maxRecDepth 4000 in
set_option maxHeartbeats 3200000 in
theorem append_put {base : Nat} {w : World} {b lb : Nat} {d : Dev} {fr ln head x : Nat} (h : LogAt base w b lb d fr ln head x) (s : List UInt8) (hB : base ≤ w.heap.size) (hs : s.length ≤ 1099511627776) (h1 : head ≤ x) (hx1 : 1 ≤ x) (h2 : x + Codec.cost s.length - 1 ≤ 1099511627776) (h3 : ln ≤ 65536) (hfr : fr ≤ 65536) (hfit : x - head + Codec.cost s.length ≤ ln) (hl : d.left < 9223372036854775808) (hc : d.calls ≤ 1099511627776) (hn : d.W.length ≤ 549755813888) :
    Calls Tryd.prog 6 #[.pointer (some ⟨lb, 0, none⟩), .string (S s)] w fun e w' =>
      ((Dev.puts fr ln s x (Codec.cost s.length) 0 d).2 = 0 → e = .returned (.tuple #[.agg #[.int .i64 (x : Int), .int .i64 ((x + Codec.cost s.length - 1 : Nat) : Int), .string (S s)], .int .i64 0]) ∧ LogAt base w' b lb (Dev.puts fr ln s x (Codec.cost s.length) 0 d).1 fr ln head ((x + Codec.cost s.length : Nat) : Int)) ∧
      ((Dev.puts fr ln s x (Codec.cost s.length) 0 d).2 ≠ 0 → e = .returned (.tuple #[R0, .int .i64 (Dev.puts fr ln s x (Codec.cost s.length) 0 d).2]) ∧ LogAt base w' b lb (Dev.puts fr ln s x (Codec.cost s.length) 0 d).1 fr ln head x) ∧ LStep b lb w w' := by
  have HC := hide (fun wy => wcost_any s.length wy hs)
  have hcp := Codec.cost_pos s.length
  have hsz : (S s).size = s.length := rfl
  have HPL := hide (fun a wy (hy : a ≤ 4398046511104) => place_any fr ln a wy (by omega) (by omega) (by omega) hy)
  have HSEC := hide (fun j wy (hj : j < Codec.cost s.length) => sector_any s x j wy hj (by omega) hs)
  have HWR : Hid (∀ j wy D, j < Codec.cost s.length → DevAt base wy b D → base ≤ wy.heap.size → D.left < 9223372036854775808 → D.calls < 4611686018427387904 → D.W.length ≤ 1099511627776 → Calls Tryd.prog 20 #[.pointer (some ⟨b, 0, none⟩), .int .i64 ((place fr ln (x + j) : Nat) : Int), SV (Codec.sec s x j)] wy fun e w' => e = .returned (.int .i64 (D.writeE ((place fr ln (x + j) : Nat) : Int) (Codec.secText (Codec.sec s x j)))) ∧ DevAt base w' b (D.write ((place fr ln (x + j) : Nat) : Int) (Codec.secText (Codec.sec s x j))) ∧ DStep b wy w') :=
    fun j wy D hj hd hB q1 q2 q3 => swrite_ok hd _ _ (Codec.sec_ok s x j (by omega)) (Codec.piece_length s j) (by show 1 ≤ x + j; omega) q1 q2 q3 hB
  obtain ⟨w0, hw0⟩ : ∃ w0, w.alloc (.cells #[.int .i64 0, .int .i64 0, .string ⟨#[]⟩] 32) = w0 := ⟨_, rfl⟩
  have hb0 : Below w.heap.size w w0 := by rw [← hw0]; exact (Below.refl _ _).alloc (Nat.le_refl _) _
  have hz0 : w0.heap[w.heap.size]? = some (.cells #[.int .i64 0, .int .i64 0, .string ⟨#[]⟩] 32 (0, 0)) := by rw [← hw0]; exact heap_alloc_new w _
  have HFR := hide (free_any (h.later hb0).1.log (by omega) (by omega) (by omega) (by omega) (by omega))
  have hw0s : w0.heap.size = w.heap.size + 1 := by rw [← hw0]; simp
  obtain ⟨c, hcc⟩ : ∃ c, Codec.cost s.length = c := ⟨_, rfl⟩
  rw [hcc] at hcp h2 hfit HC HSEC HWR ⊢
  obtain ⟨q, hq⟩ : ∃ q, x + c - 1 = q := ⟨_, rfl⟩
  obtain ⟨n, hnn⟩ : ∃ n, s.length = n := ⟨_, rfl⟩
  rw [hq] at HSEC h2 ⊢
  rw [hnn] at hs hsz HC
  have hgt : ¬ (ln : Int) - ((x : Int) - (head : Int)) < (c : Int) := by omega
  generalize (ln : Int) - ((x : Int) - (head : Int)) = f at *
  obtain ⟨P, hP⟩ : ∃ P, Dev.puts fr ln s x c 0 d = P := ⟨_, rfl⟩
  rw [hP]
  have HP := hide hP
  obtain ⟨Z, hZ⟩ : ∃ Z, w.heap.size = Z := ⟨_, rfl⟩
  have hxc : (x : Int) + (c : Int) - 1 = (q : Int) := by omega
  have hq40 : ¬ (1099511627776 : Int) < (q : Int) := by omega
  have HHQ := hide hq
  clear hP hcc hnn hq
  go_enter Tryd.func6, Tryd.ntmps6
  go_wp2_with fail
  refine (unhide HC _).mono ?_
  rintro e w1 ⟨rfl, rfl⟩
  go_wp2_with fail
  refine (unhide HFR).mono ?_
  rintro e w2 ⟨rfl, nq, rfl⟩
  have hbX : Below w.heap.size w (w1.drewN nq) := w_below_drewN hb0 nq
  have hz : (w1.drewN nq).heap[Z]? = some (.cells #[.int .i64 0, .int .i64 0, .string ⟨#[]⟩] 32 (0, 0)) := by rw [← hZ]; exact hz0
  have hl2 := (h.later hbX).1
  obtain ⟨c0, c1, c2, c3, c4⟩ := wl_cells hl2.log
  have hZ1 : (w1.drewN nq).heap.size = Z + 1 := by rw [← hZ]; exact hw0s
  have HBX := hide hbX
  have HZ := hide hz
  have HL2 := hide hl2
  have HZ1 := hide hZ1
  have HHZ := hide hZ
  generalize w1.drewN nq = w2 at *
  have c4A : ∀ o, (w2.alloc o).cell? ⟨lb, 4, none⟩ = some (.int .i64 (x : Int)) := fun o => by
    rw [World.cell?_of_block (w := w2) (a := ⟨lb, 4, none⟩) (Below.heap_alloc w2 o lb (block_lt hl2.log))]; exact c4
  clear HC HFR hb0 hz0 hw0 hw0s hbX hz hl2 hZ1 hZ
  go_wp2_with fail
  go_region
  obtain ⟨RB, hRB⟩ : ∃ RB, w2.heap.size = RB := ⟨_, rfl⟩
  have HS3 : Hid (AS base w (w2.alloc (.cells #[.int .i64 (x : Int), .int .i64 (q : Int), .string (S s)] 32)).drew b lb Z RB d fr ln head x q x s) := by
    have hl2 := unhide HL2
    have hb3 : Below w2.heap.size w2 (w2.alloc (.cells #[.int .i64 (x : Int), .int .i64 (q : Int), .string (S s)] 32)).drew := ((Below.refl _ w2).alloc (Nat.le_refl _) _).drew
    obtain ⟨h31, h32⟩ := hl2.later hb3
    have hz := unhide HZ
    have hzf : DFor w b Z := DFor.new h.dev (by rw [unhide HHZ]; exact Nat.le_refl _)
    have hzf2 : DFor w2 b Z := hzf.same ((unhide HBX).block b h.dev.lt)
    refine ⟨h31, (h.later (unhide HBX)).2.trans h32, (hb3.block Z (block_lt hz)).trans hz, hzf2.same (hb3.block b hl2.dev.lt), ?_, ?_, by rw [unhide HHZ]; exact Nat.le_refl _, by have := unhide HZ1; have := unhide HHZ; omega⟩
    · rw [← hRB]; exact heap_alloc_new w2 _
    · exact (DFor.new hl2.dev (by omega)).same (hb3.block b hl2.dev.lt)
  have hA3 := (unhide HS3).cells
  obtain ⟨⟨a0, a1, a2, a3, a4⟩, r0, r1, r2⟩ := hA3
  rw [hRB]
  generalize (w2.alloc (.cells #[.int .i64 (x : Int), .int .i64 (q : Int), .string (S s)] 32)).drew = w3 at *
  clear c0 c1 c2 c3 c4 c4A HL2 HZ HBX HZ1 hRB hgt hxc
  unfold AV at HPL
  go_wp2_with fail
  clear a0 a1 a2 a3 a4 r0 r1 r2
  go_loopw [8] (fun i wr => ∃ (j : Nat) (D : Dev), j ≤ c ∧ i = .int .i64 ((x + j : Nat) : Int) ∧ Dev.puts fr ln s x c 0 d = Dev.puts fr ln s x (c - j) j D ∧ AS base w wr b lb Z RB D fr ln head x q x s ∧ D.left ≤ d.left ∧ D.calls ≤ d.calls + j ∧ D.W.length ≤ d.W.length + j) (fun i _ => x + c - (intOf i).toNat)
  case atStart => exact ⟨0, d, Nat.zero_le _, rfl, rfl, unhide HS3, Nat.le_refl _, Nat.le_refl _, Nat.le_refl _⟩
  case round =>
    obtain ⟨j, D, hj, rfl, hpu, has, hD1, hD2, hD3⟩ := hrel
    clear HS3
    obtain ⟨a, hax⟩ : ∃ a, x + j = a := ⟨_, rfl⟩
    rw [hax]
    have HAS := hide has
    have HPU := hide hpu
    obtain ⟨⟨a0, a1, a2, a3, a4⟩, r0, r1, r2⟩ := has.cells
    by_cases hlt : j < c
    · have hqq := unhide HHQ
      have hle : (a : Int) ≤ (q : Int) := by omega
      have ha40 : a ≤ 4398046511104 := by omega
      clear hqq
      obtain ⟨n', hn'⟩ : ∃ n', c - j = n' + 1 := ⟨c - j - 1, by omega⟩
      have HSE := hide (fun wy => unhide HSEC j wy hlt)
      have HW2 := hide (fun wy (hd : DevAt base wy b D) (hB : base ≤ wy.heap.size) => unhide HWR j wy D hlt hd hB (by omega) (by omega) (by omega))
      have hpu2 := hpu
      rw [hn', Dev.puts] at hpu2
      have hg := write_grows D ((place fr ln (x + j) : Nat) : Int) (Codec.secText (Codec.sec s x j))
      rw [hax] at HSE HW2 hpu2 hg
      generalize D.writeE ((place fr ln a : Nat) : Int) (Codec.secText (Codec.sec s x j)) = E at *
      generalize D.write ((place fr ln a : Nat) : Int) (Codec.secText (Codec.sec s x j)) = D1 at *
      generalize SV (Codec.sec s x j) = sv at *
      have HP2 := hide hpu2
      have HG := hide hg
      have HPA := hide (fun wy => unhide HPL a wy ha40)
      generalize place fr ln a = pl at *
      have HBc : Hid (AS base w wr.drew b lb Z RB D fr ln head x q x s) := has.later (Below.refl _ _).drew
      obtain ⟨⟨b0, b1, b2, b3, b4⟩, s0, s1, s2⟩ := (unhide HBc).cells
      have HAX := hide hax
      have HN := hide hn'
      clear has hpu hpu2 hg hax hn'
      go_wp2_with fail
      go_region_law (first
        | (go_simp; go_at_call 21; refine (unhide HPA _).mono ?_; rintro e wz ⟨rfl, hbz⟩; have HBc := hide ((unhide HBc).later hbz); obtain ⟨⟨b0, b1, b2, b3, b4⟩, s0, s1, s2⟩ := (unhide HBc).cells; clear hbz)
        | (go_simp; go_at_call 22; refine (unhide HSE _).mono ?_; rintro e wz ⟨rfl, hbz⟩; have HBc := hide ((unhide HBc).later hbz); obtain ⟨⟨b0, b1, b2, b3, b4⟩, s0, s1, s2⟩ := (unhide HBc).cells; clear hbz)
        | (go_simp; go_at_call 20; refine (unhide HW2 _ (unhide HBc).log.dev (Nat.le_trans hB (unhide HBc).stp.size)).mono ?_; rintro e wv ⟨rfl, hdv, hsv⟩; have HV := hide ((unhide HBc).step hdv hsv); obtain ⟨⟨t0, t1, t2, t3, t4⟩, v0, v1, v2⟩ := (unhide HV).cells; clear hdv hsv))
      all_goals
        clear a0 a1 a2 a3 a4 r0 r1 r2 b0 b1 b2 b3 b4 s0 s1 s2 HBc HPA HSE HW2 HAS
        by_cases hE : E = 0
        · subst hE
          clear t0 t1 t2 t3 t4 v0 v1 v2
          go_wp2_with fail
          have hg := unhide HG
          refine ⟨⟨j + 1, D1, by omega, by have := unhide HAX; simp; omega, ?_, unhide HV, by omega, by omega, by omega⟩, ?_⟩
          · have := unhide HP2
            rw [if_neg (by simp)] at this
            rw [this, show c - (j + 1) = n' by have := unhide HN; omega]
          · have := unhide HAX
            simp [intOf]
            have := unhide HHQ
            omega
        · have hEb : (E != 0) = true := by simpa using hE
          have hPE : P = (D1, E) := by
            rw [← unhide HP, unhide HP2, if_pos hE]
          have HPE := hide hPE
          have HE := hide hE
          obtain ⟨z0, z1, z2, f0, f1, f2⟩ := (unhide HV).zero
          clear t0 t1 t2 t3 t4 v0 v1 v2 hPE hE
          go_wp2_with fail
          have h9 := set3 (unhide HV).res (.int .i64 0) (.int .i64 0) (.string ⟨#[]⟩)
          have d0 := bcell h9 0
          have d1 := bcell h9 1
          have d2 := bcell h9 2
          simp only [List.getElem?_toArray, List.getElem?_cons_zero, List.getElem?_cons_succ] at d0 d1 d2
          obtain ⟨g1, g2⟩ := (unhide HV).fill (.int .i64 0) (.int .i64 0) (.string ⟨#[]⟩)
          refine bodyPost_ret (v := .tuple #[R0, .int .i64 E]) (by simp [results, Tryd.results6, go_sem, d0, d1, d2, R0]) rfl ?_
          rw [unhide HPE]
          exact ⟨fun e => absurd e (unhide HE), fun _ => ⟨rfl, g1⟩, g2⟩
    · have hjc : j = c := by omega
      have hle : ¬ (a : Int) ≤ (q : Int) := by have := unhide HHQ; omega
      have hPE : P = (D, 0) := by
        rw [← unhide HP, hpu, hjc, Nat.sub_self]
        rfl
      have HPE := hide hPE
      have hN := has.next ((q : Int) + 1)
      have f4 := wl_froz has.log.log 4
      obtain ⟨z0, z1, z2, f0, f1, f2⟩ := hN.zero
      obtain ⟨⟨b0, b1, b2, b3, b4⟩, s0, s1, s2⟩ := hN.cells
      have HNX := hide hN
      have HQ1 : Hid ((q : Int) + 1 = ((x + c : Nat) : Int)) := by have := unhide HHQ; show (q : Int) + 1 = ((x + c : Nat) : Int); omega
      clear hPE hpu has hjc hlt hax hN
      go_wp2_with fail
      have h9 := set3 (unhide HNX).res (.int .i64 (x : Int)) (.int .i64 (q : Int)) (.string (S s))
      have d0 := bcell h9 0
      have d1 := bcell h9 1
      have d2 := bcell h9 2
      simp only [List.getElem?_toArray, List.getElem?_cons_zero, List.getElem?_cons_succ] at d0 d1 d2
      obtain ⟨g1, g2⟩ := (unhide HNX).fill (.int .i64 (x : Int)) (.int .i64 (q : Int)) (.string (S s))
      refine bodyPost_ret (v := .tuple #[.agg #[.int .i64 (x : Int), .int .i64 (q : Int), .string (S s)], .int .i64 0]) (by simp [results, Tryd.results6, go_sem, d0, d1, d2]) rfl ?_
      have e1 : (x : Int) + (c : Int) = (q : Int) + 1 := by have := unhide HQ1; omega
      rw [unhide HPE, e1]
      exact ⟨fun _ => ⟨rfl, g1⟩, fun e => absurd rfl e, g2⟩
end Go.Proofs.YtbmhmljbpjimoaaDoor
/- Plain mathematics: what a log's writes leave on a device. -/
namespace Go.Proofs.YtbmhmljbpjimoaaDoor
open Go.RowKit
set_option linter.unusedVariables false
set_option maxRecDepth 100000

def wlist (fr ln : Nat) (s : List UInt8) (x : Nat) : Nat → Nat → List (Nat × List UInt8)
  | 0, _ => []
  | n + 1, j => (place fr ln (x + j), Codec.secText (Codec.sec s x j)) :: wlist fr ln s x n (j + 1)
theorem wlist_length (fr ln : Nat) (s : List UInt8) (x : Nat) : ∀ n j, (wlist fr ln s x n j).length = n
  | 0, _ => rfl
  | n + 1, j => by simp [wlist, wlist_length fr ln s x n (j + 1)]
theorem mem_wlist {fr ln : Nat} {s : List UInt8} {x : Nat} {k : Nat} {c : List UInt8} : ∀ {n j}, (k, c) ∈ wlist fr ln s x n j → ∃ i, j ≤ i ∧ i < j + n ∧ k = place fr ln (x + i) ∧ c = Codec.secText (Codec.sec s x i)
  | 0, _, h => by cases h
  | n + 1, j, h => by
    rcases List.mem_cons.1 h with h | h
    · cases h
      exact ⟨j, Nat.le_refl _, by omega, rfl, rfl⟩
    · obtain ⟨i, h1, h2, h3⟩ := mem_wlist h
      exact ⟨i, by omega, by omega, h3⟩
theorem wlist_mem (fr ln : Nat) (s : List UInt8) (x : Nat) : ∀ n j i, j ≤ i → i < j + n → (place fr ln (x + i), Codec.secText (Codec.sec s x i)) ∈ wlist fr ln s x n j
  | 0, _, _, h1, h2 => by omega
  | n + 1, j, i, h1, h2 => by
    by_cases e : i = j
    · subst e; exact List.mem_cons_self
    · exact List.mem_cons_of_mem _ (wlist_mem fr ln s x n (j + 1) i (by omega) (by omega))
theorem place_inj {fr ln a b : Nat} (h : place fr ln a = place fr ln b) (h1 : a ≤ b) (h2 : b < a + ln) : a = b := by
  unfold place at h
  have hm : a % ln = b % ln := by omega
  have e1 := Nat.div_add_mod a ln
  have e2 := Nat.div_add_mod b ln
  rcases Nat.lt_or_ge (a / ln) (b / ln) with h3 | h3
  · have : ln * (a / ln + 1) ≤ ln * (b / ln) := Nat.mul_le_mul_left _ h3
    rw [Nat.mul_add, Nat.mul_one] at this
    omega
  · have h4 : a / ln = b / ln := Nat.le_antisymm (Nat.div_le_div_right h1) h3
    rw [h4, hm] at e1
    omega
theorem place_lt (fr ln a m : Nat) (h0 : 0 < ln) (h : fr + ln ≤ m) : place fr ln a < m := by
  unfold place
  have := Nat.mod_lt a h0
  omega
theorem w_whole (T : List UInt8) (h : T.length = 64) : whole T = T := by
  rw [whole_long T (by omega), List.take_of_length_le (by omega)]
theorem w_write (d : Dev) (i : Nat) (T : List UInt8) (h1 : i < d.L.length) (h2 : T.length = 64) (ho : ¬ d.out) : d.write (i : Int) T = { d with left := if d.armed then d.left - 1 else d.left, calls := d.calls + 1, W := d.W ++ [(i, T)] } ∧ d.writeE (i : Int) T = 0 := by
  have hn : ¬ (d.no (i : Int) ∨ 64 < T.length) := by
    intro hx
    rcases hx with hx | hx
    · unfold Dev.no at hx; omega
    · omega
  unfold Dev.write Dev.writeE Dev.begin
  rw [if_neg hn, if_neg hn, if_neg ho, if_neg ho, if_neg ho, w_whole T h2]
  exact ⟨rfl, rfl⟩
theorem w_write_out (d : Dev) (i : Nat) (T : List UInt8) (h1 : i < d.L.length) (h2 : T.length = 64) (ho : d.out) : d.write (i : Int) T = { d with down := true } ∧ d.writeE (i : Int) T = 16 := by
  have hn : ¬ (d.no (i : Int) ∨ 64 < T.length) := by
    intro hx
    rcases hx with hx | hx
    · unfold Dev.no at hx; omega
    · omega
  unfold Dev.write Dev.writeE Dev.begin
  rw [if_neg hn, if_neg hn, if_pos ho, if_pos ho, if_pos ho]
  exact ⟨rfl, rfl⟩
theorem sec_len (s : List UInt8) (x j : Nat) (h : x + j ≤ 1099511627776) : (Codec.secText (Codec.sec s x j)).length = 64 := Codec.secText_length _ (Codec.sec_ok s x j h) (Codec.piece_length s j)

theorem puts_on (fr ln : Nat) (s : List UInt8) (x : Nat) (hl : 0 < ln) : ∀ n j (d : Dev), d.down = false → d.armed = false → fr + ln ≤ d.L.length → (0 < n → x + j + n ≤ 1099511627777) → Dev.puts fr ln s x n j d = ({ d with W := d.W ++ wlist fr ln s x n j, calls := d.calls + n }, 0)
  | 0, j, d, h1, h2, h3, h4 => by simp [Dev.puts, wlist]
  | n + 1, j, d, h1, h2, h3, h4 => by
    have ho : ¬ d.out := by unfold Dev.out; rw [h1, h2]; simp
    obtain ⟨e1, e2⟩ := w_write d (place fr ln (x + j)) _ (place_lt fr ln _ _ hl h3) (sec_len s x j (by have := h4 (by omega); omega)) ho
    rw [Dev.puts, if_neg (by rw [e2]; simp), e1, puts_on fr ln s x hl n (j + 1) { d with left := if d.armed then d.left - 1 else d.left, calls := d.calls + 1, W := d.W ++ [(place fr ln (x + j), Codec.secText (Codec.sec s x j))] } h1 h2 h3 (fun _ => by have := h4 (by omega); omega)]
    simp [wlist, h2, Nat.add_assoc, Nat.add_comm 1 n]
theorem puts_armed (fr ln : Nat) (s : List UInt8) (x : Nat) (hl : 0 < ln) : ∀ n j (d : Dev), d.down = false → d.armed = true → fr + ln ≤ d.L.length → (0 < n → x + j + n ≤ 1099511627777) →
    Dev.puts fr ln s x n j d = if n ≤ d.left then ({ d with W := d.W ++ wlist fr ln s x n j, calls := d.calls + n, left := d.left - n }, 0) else ({ d with W := d.W ++ wlist fr ln s x d.left j, calls := d.calls + d.left, left := 0, down := true }, 16)
  | 0, j, d, h1, h2, h3, h4 => by simp [Dev.puts, wlist]
  | n + 1, j, d, h1, h2, h3, h4 => by
    by_cases hz : d.left = 0
    · have ho : d.out := by unfold Dev.out; rw [h2]; exact Or.inr ⟨rfl, hz⟩
      obtain ⟨e1, e2⟩ := w_write_out d (place fr ln (x + j)) _ (place_lt fr ln _ _ hl h3) (sec_len s x j (by have := h4 (by omega); omega)) ho
      rw [Dev.puts, if_pos (by rw [e2]; simp), e1, e2, if_neg (by omega), hz]
      obtain ⟨L, W, dn, ar, lf, cl⟩ := d
      dsimp only at hz
      subst hz
      simp [wlist]
    · have ho : ¬ d.out := by unfold Dev.out; rw [h1, h2]; simp [hz]
      obtain ⟨e1, e2⟩ := w_write d (place fr ln (x + j)) _ (place_lt fr ln _ _ hl h3) (sec_len s x j (by have := h4 (by omega); omega)) ho
      rw [Dev.puts, if_neg (by rw [e2]; simp), e1, puts_armed fr ln s x hl n (j + 1) { d with left := if d.armed then d.left - 1 else d.left, calls := d.calls + 1, W := d.W ++ [(place fr ln (x + j), Codec.secText (Codec.sec s x j))] } h1 h2 h3 (fun _ => by have := h4 (by omega); omega)]
      obtain ⟨l', hl'⟩ : ∃ l', d.left = l' + 1 := ⟨d.left - 1, by omega⟩
      simp only [h2, if_true, hl', Nat.add_sub_cancel, wlist]
      by_cases hle : n ≤ l'
      · rw [if_pos hle, if_pos (by omega)]
        simp [Nat.add_assoc, Nat.add_comm 1 n]
      · rw [if_neg hle, if_neg (by omega)]
        simp [Nat.add_assoc, Nat.add_comm 1 l']

/- What may stand in a sector. -/
def can (d : Dev) (k : Nat) (c : List UInt8) : Prop := d.L[k]? = some c ∨ (k, c) ∈ d.W
theorem cur_can (d : Dev) (k : Nat) (h : k < d.L.length) : can d k (d.cur k) := by
  unfold Dev.cur
  cases e : d.W.reverse.find? (fun x => x.1 == k) with
  | none => left; simp [List.getD, List.getElem?_eq_getElem h]
  | some x =>
    right
    have h1 := List.find?_some e
    have h2 := List.mem_of_find?_eq_some e
    have : x.1 = k := by simpa using h1
    subst this
    simpa using h2
theorem lay_can : ∀ (ws : List (Nat × List UInt8)) (l : List (List UInt8)) (k : Nat) (c : List UInt8), (lay l ws)[k]? = some c → l[k]? = some c ∨ (k, c) ∈ ws
  | [], l, k, c, h => Or.inl h
  | x :: r, l, k, c, h => by
    rcases lay_can r (l.set x.1 x.2) k c h with h1 | h1
    · rw [List.getElem?_set] at h1
      split at h1
      · rename_i e
        subst e
        split at h1
        · cases h1; right; exact List.mem_cons_self
        · cases h1
      · exact Or.inl h1
    · exact Or.inr (List.mem_cons_of_mem _ h1)
theorem chosen_mem {keep : List Int} {ws : List (Nat × List UInt8)} {x : Nat × List UInt8} (h : x ∈ chosen keep ws) : x ∈ ws := by
  unfold chosen at h
  obtain ⟨y, hy, rfl⟩ := List.mem_map.1 h
  have := (List.mem_filter.1 hy).1
  exact (List.mem_zipIdx' this).2 ▸ List.getElem_mem _
theorem crash_can (d : Dev) (keep : List Int) (k : Nat) (c : List UInt8) (h : can (d.crash keep) k c) : can d k c := by
  rcases h with h | h
  · rcases lay_can _ _ _ _ h with h1 | h1
    · exact Or.inl h1
    · exact Or.inr (chosen_mem h1)
  · cases h
theorem flush_can (d : Dev) (ho : ¬ d.out) (k : Nat) (c : List UInt8) (h : can d.flush k c) : can d k c := by
  unfold Dev.flush at h
  rw [if_neg ho] at h
  rcases h with h | h
  · exact lay_can _ _ _ _ h
  · cases h
theorem new_can (n k : Nat) (c : List UInt8) (h : can (Dev.new n) k c) : c = whole [] := by
  rcases h with h | h
  · simp only [Dev.new] at h
    exact (List.mem_replicate.1 (List.mem_of_getElem? h)).2
  · cases h
theorem w_parse_blank : (Codec.parse (whole [])).2 = 5 := by
  unfold Codec.parse
  rw [if_neg (by rw [whole_length]; decide), if_pos (by decide +kernel)]
def vw (c : List UInt8) : Option Codec.Sec := if (Codec.parse c).2 = 0 then some (Codec.parse c).1 else none
theorem view_vw (d : Dev) (fr ln a : Nat) : view d fr ln a = vw (d.cur (place fr ln a)) := rfl
theorem vw_blank : vw (whole []) = none := by unfold vw; rw [if_neg (by rw [w_parse_blank]; decide)]
theorem vw_sec (s : List UInt8) (x j : Nat) (h : x + j ≤ 1099511627776) (h1 : 1 ≤ x + j) : vw (Codec.secText (Codec.sec s x j)) = some (Codec.sec s x j) := by
  unfold vw
  rw [Codec.parse_text _ (Codec.sec_ok s x j h) (Codec.piece_length s j) h1]
  rfl
/- Nothing but blanks: nothing is found. -/
theorem scan_blank (d : Dev) (fr ln x n : Nat) (hl : 0 < ln) (hfl : fr + ln ≤ d.L.length) (h : ∀ k c, can d k c → c = whole []) : Codec.scan (view d fr ln) n x false [] x = ([], x) := by
  apply Codec.scan_none
  rw [view_vw, h _ _ (cur_can d _ (place_lt fr ln x _ hl hfl)), vw_blank]

/- A device that may be: its sectors are whole. -/
structure Fine (d : Dev) : Prop where
  ok : d.Ok
  sz : ∀ k c, can d k c → c.length = 64
variable {d : Dev}
theorem Fine.cur (h : Fine d) (k : Nat) (hk : k < d.L.length) : (d.cur k).length ≤ 1000 := by
  have := h.sz k _ (cur_can d k hk)
  omega
theorem Fine.new (n : Nat) (h : 0 < n) : Fine (Dev.new n) := ⟨⟨fun x hx => absurd hx List.not_mem_nil, by simpa [Dev.new] using h⟩, fun k c hc => by rw [new_can n k c hc, whole_length]⟩
theorem Fine.crash (h : Fine d) (keep : List Int) : Fine (d.crash keep) := ⟨⟨fun x hx => absurd hx List.not_mem_nil, by show 0 < (lay _ _).length; rw [lay_length]; exact h.ok.some⟩, fun k c hc => h.sz k c (crash_can d keep k c hc)⟩
theorem Fine.flush (h : Fine d) (ho : ¬ d.out) : Fine d.flush := by
  refine ⟨⟨fun x hx => ?_, ?_⟩, fun k c hc => h.sz k c (flush_can d ho k c hc)⟩
  · unfold Dev.flush at hx
    rw [if_neg ho] at hx
    cases hx
  · unfold Dev.flush
    rw [if_neg ho]
    show 0 < (lay _ _).length
    rw [lay_length]; exact h.ok.some
theorem Fine.writes (h : Fine d) (l : List (Nat × List UInt8)) (hl : ∀ x ∈ l, x.1 < d.L.length ∧ x.2.length = 64) (d' : Dev) (e1 : d'.L = d.L) (e2 : d'.W = d.W ++ l) : Fine d' := by
  refine ⟨⟨fun x hx => ?_, by rw [e1]; exact h.ok.some⟩, fun k c hc => ?_⟩
  · rw [e1]
    rw [e2] at hx
    rcases List.mem_append.1 hx with hx | hx
    · exact h.ok.has x hx
    · exact (hl x hx).1
  · unfold can at hc
    rw [e1, e2] at hc
    rcases hc with hc | hc
    · exact h.sz k c (Or.inl hc)
    · rcases List.mem_append.1 hc with hc | hc
      · exact h.sz k c (Or.inr hc)
      · exact (hl _ hc).2
theorem wlist_fine (fr ln : Nat) (s : List UInt8) (x n j m : Nat) (hl : 0 < ln) (h : fr + ln ≤ m) (h4 : 0 < n → x + j + n ≤ 1099511627777) : ∀ y ∈ wlist fr ln s x n j, y.1 < m ∧ y.2.length = 64 := by
  rintro ⟨k, c⟩ hy
  obtain ⟨i, h1, h2, rfl, rfl⟩ := mem_wlist hy
  exact ⟨place_lt fr ln _ _ hl h, sec_len s x i (by have := h4 (by omega); omega)⟩
end Go.Proofs.YtbmhmljbpjimoaaDoor
/- Plain mathematics: a log's texts on a device, what stands of them, what is found behind a crash. -/
namespace Go.Proofs.YtbmhmljbpjimoaaDoor
open Go.RowKit
set_option linter.unusedVariables false
set_option maxRecDepth 100000

def bad (a : Nat) (c : List UInt8) : Prop := ∀ s, vw c = some s → s.stamp ≠ a
theorem bad_blank (a : Nat) : bad a (whole []) := fun s h => by rw [vw_blank] at h; cases h
theorem secAt_some {x : Nat} : ∀ {ts : List (List UInt8)} {x a : Nat} {s : Codec.Sec}, Codec.secAt x ts a = some s → x ≤ a → a ≤ 1099511627776 → 1 ≤ a → s.stamp = a ∧ vw (Codec.secText s) = some s
  | [], x, a, s, h, _, _, _ => by cases h
  | t :: r, x, a, s, h, h1, h2, h3 => by
    unfold Codec.secAt at h
    split at h
    · cases h
      refine ⟨?_, vw_sec t x (a - x) (by omega) (by omega)⟩
      show x + (a - x) = a
      omega
    · rename_i hn
      exact secAt_some (x := x) h (by omega) h2 h3
theorem secAt_snoc : ∀ (ts : List (List UInt8)) (t : List UInt8) (x a : Nat), x ≤ a → Codec.secAt x (ts ++ [t]) a = if a < x + Codec.costs ts then Codec.secAt x ts a else if a < x + Codec.costs ts + Codec.cost t.length then some (Codec.sec t (x + Codec.costs ts) (a - (x + Codec.costs ts))) else none
  | [], t, x, a, h => by
    rw [show Codec.costs [] = 0 from rfl, Nat.add_zero, if_neg (show ¬ a < x by omega), List.nil_append, Codec.secAt]
    by_cases h2 : a < x + Codec.cost t.length
    · rw [if_pos h2, if_pos h2]
    · rw [if_neg h2, if_neg h2]; rfl
  | u :: r, t, x, a, h => by
    rw [List.cons_append, Codec.secAt, show Codec.costs (u :: r) = Codec.cost u.length + Codec.costs r from rfl, ← Nat.add_assoc]
    by_cases h1 : a < x + Codec.cost u.length
    · rw [if_pos h1, if_pos (show a < x + Codec.cost u.length + Codec.costs r by omega), Codec.secAt, if_pos h1]
    · rw [if_neg h1, secAt_snoc r t (x + Codec.cost u.length) a (by omega)]
      by_cases h2 : a < x + Codec.cost u.length + Codec.costs r
      · rw [if_pos h2, if_pos h2, Codec.secAt, if_neg h1]
      · rw [if_neg h2, if_neg h2]
theorem secAt_none : ∀ (ts : List (List UInt8)) (x a : Nat), x + Codec.costs ts ≤ a → Codec.secAt x ts a = none
  | [], x, a, h => rfl
  | u :: r, x, a, h => by
    simp only [Codec.costs] at h
    simp only [Codec.secAt]
    rw [if_neg (by have := Codec.cost_pos u.length; omega), secAt_none r _ a (by omega)]
theorem costs_take (ts : List (List UInt8)) (k : Nat) : Codec.costs (ts.take k) ≤ Codec.costs ts := by
  have := Codec.costs_append (ts.take k) (ts.drop k)
  rw [List.take_append_drop] at this
  omega
theorem cur_append_not (d d' : Dev) (l : List (Nat × List UInt8)) (k : Nat) (e1 : d'.L = d.L) (e2 : d'.W = d.W ++ l) (h : ∀ y ∈ l, y.1 ≠ k) : d'.cur k = d.cur k := by
  unfold Dev.cur
  rw [e1, e2, List.reverse_append, List.find?_append]
  have : l.reverse.find? (fun x => x.1 == k) = none := by
    rw [List.find?_eq_none]
    intro y hy
    have := h y (by simpa using hy)
    simpa using this
  rw [this]; rfl
theorem cur_append_mem (d d' : Dev) (l : List (Nat × List UInt8)) (k : Nat) (c : List UInt8) (e2 : d'.W = d.W ++ l) (h : (k, c) ∈ l) (ho : ∀ y ∈ l, y.1 = k → y.2 = c) : d'.cur k = c := by
  unfold Dev.cur
  rw [e2, List.reverse_append, List.find?_append]
  cases e : l.reverse.find? (fun x => x.1 == k) with
  | none =>
    rw [List.find?_eq_none] at e
    have := e (k, c) (by simpa using h)
    simp at this
  | some y =>
    have h1 := List.find?_some e
    have h2 := List.mem_of_find?_eq_some e
    have := ho y (by simpa using h2) (by simpa using h1)
    simpa using this
theorem w_lay_cur : ∀ (r : List (Nat × List UInt8)) (l : List (List UInt8)) (k : Nat), k < l.length → (lay l r.reverse).getD k [] = ((r.find? (fun x => x.1 == k)).map (·.2)).getD (l.getD k [])
  | [], l, k, h => rfl
  | x :: r, l, k, h => by
    rw [List.reverse_cons, lay_snoc, List.find?_cons]
    by_cases e : x.1 = k
    · rw [show (x.1 == k) = true by simpa using e]
      have hl : k < (lay l r.reverse).length := by rw [lay_length]; exact h
      simp [List.getD, e, hl]
    · rw [show (x.1 == k) = false by simpa using e]
      have := w_lay_cur r l k h
      simp only [List.getD, List.getElem?_set, if_neg e] at this ⊢
      exact this
/- Behind a flush a sector is what was read there. -/
theorem flush_only (d : Dev) (ho : ¬ d.out) (k : Nat) (c : List UInt8) (hk : k < d.L.length) (h : can d.flush k c) : c = d.cur k := by
  unfold Dev.flush at h
  rw [if_neg ho] at h
  rcases h with h | h
  · have := w_lay_cur d.W.reverse d.L k hk
    rw [List.reverse_reverse] at this
    unfold Dev.cur
    rw [← this]
    have h2 : (lay d.L d.W)[k]? = some c := h
    simp [List.getD, h2]
  · cases h
theorem flush_shape (d : Dev) (ho : ¬ d.out) : d.flush.L.length = d.L.length ∧ d.flush.W = [] ∧ d.flush.down = d.down ∧ d.flush.armed = d.armed ∧ d.flush.calls = d.calls + 1 ∧ d.flushE = 0 := by
  unfold Dev.flush Dev.flushE Dev.begin
  rw [if_neg ho, if_neg ho, if_neg ho]
  exact ⟨lay_length _ _, rfl, rfl, rfl, rfl, rfl⟩

structure PD (fr ln x : Nat) (ts : List (List UInt8)) (must : Nat) (D : Dev) : Prop where
  dn : D.down = false
  ar : D.armed = false
  lf : D.left = 0
  len : D.L.length = 24
  fine : Fine D
  cst : Codec.costs ts ≤ ln
  wl : D.W.length ≤ Codec.costs ts
  cl : D.calls ≤ 1000 + Codec.costs ts
  cur : ∀ a, x ≤ a → a < x + Codec.costs ts → ∃ s, Codec.secAt x ts a = some s ∧ D.cur (place fr ln a) = Codec.secText s
  cn : ∀ a, x ≤ a → a < x + ln → ∀ c, can D (place fr ln a) c → bad a c ∨ ∃ s, Codec.secAt x ts a = some s ∧ c = Codec.secText s
  fc : ∀ a, x ≤ a → a < x + Codec.costs (ts.take must) → ∀ c, can D (place fr ln a) c → ∃ s, Codec.secAt x ts a = some s ∧ c = Codec.secText s
  ms : must ≤ ts.length

section
variable {fr ln x : Nat} {ts : List (List UInt8)} {must : Nat} {D : Dev}
theorem PD.out (h : PD fr ln x ts must D) : ¬ D.out := by unfold Dev.out; rw [h.dn, h.ar]; simp
theorem PD.start (hd : D.down = false) (ha : D.armed = false) (hl : D.left = 0) (hL : D.L.length = 24) (hF : Fine D) (hW : D.W = []) (hc : D.calls ≤ 1000) (hb : ∀ a, x ≤ a → a < x + ln → ∀ c, can D (place fr ln a) c → bad a c) : PD fr ln x [] 0 D :=
  ⟨hd, ha, hl, hL, hF, Nat.zero_le _, by rw [hW]; exact Nat.le_refl _, by simpa [Codec.costs] using hc, fun a h1 h2 => by simp [Codec.costs] at h2; omega, fun a h1 h2 c hc => Or.inl (hb a h1 h2 c hc), fun a h1 h2 => by simp [Codec.costs] at h2; omega, Nat.le_refl _⟩
def Dev.put (fr ln : Nat) (t : List UInt8) (x : Nat) (D : Dev) : Dev := { D with W := D.W ++ wlist fr ln t x (Codec.cost t.length) 0, calls := D.calls + Codec.cost t.length }
theorem PD.app (h : PD fr ln x ts must D) (t : List UInt8) (hl : 0 < ln) (hfl : fr + ln ≤ 24) (hx : 1 ≤ x) (hx2 : x + ln ≤ 1099511627776) (hfit : Codec.costs ts + Codec.cost t.length ≤ ln) :
    PD fr ln x (ts ++ [t]) must (Dev.put fr ln t (x + Codec.costs ts) D) ∧ Dev.puts fr ln t (x + Codec.costs ts) (Codec.cost t.length) 0 D = (Dev.put fr ln t (x + Codec.costs ts) D, 0) := by
  have hcs : Codec.costs (ts ++ [t]) = Codec.costs ts + Codec.cost t.length := by rw [Codec.costs_append]; simp [Codec.costs]
  refine ⟨?_, puts_on fr ln t _ hl _ 0 D h.dn h.ar (by rw [h.len]; exact hfl) (by omega)⟩
  have hkey : ∀ a, x ≤ a → a < x + ln → ∀ c, (place fr ln a, c) ∈ wlist fr ln t (x + Codec.costs ts) (Codec.cost t.length) 0 → x + Codec.costs ts ≤ a ∧ a < x + Codec.costs ts + Codec.cost t.length ∧ c = Codec.secText (Codec.sec t (x + Codec.costs ts) (a - (x + Codec.costs ts))) := by
    intro a ha1 ha2 c hm
    obtain ⟨i, h1, h2, h3, h4⟩ := mem_wlist hm
    have : a = x + Codec.costs ts + i := by
      rcases Nat.le_total a (x + Codec.costs ts + i) with hle | hle
      · exact place_inj h3 hle (by omega)
      · exact (place_inj h3.symm hle (by omega)).symm
    subst this
    exact ⟨by omega, by omega, by rw [h4]; congr 2; omega⟩
  have hnot : ∀ a, x ≤ a → a < x + Codec.costs ts → ∀ y ∈ wlist fr ln t (x + Codec.costs ts) (Codec.cost t.length) 0, y.1 ≠ place fr ln a := by
    rintro a ha1 ha2 ⟨k, c⟩ hy rfl
    have := (hkey a ha1 (by omega) c hy).1
    omega
  refine ⟨h.dn, h.ar, h.lf, h.len, h.fine.writes _ (wlist_fine fr ln t _ _ 0 _ hl (by rw [h.len]; exact hfl) (by omega)) _ rfl rfl, by omega, ?_, ?_, ?_, ?_, ?_, by rw [List.length_append]; have := h.ms; omega⟩
  · show (D.W ++ wlist fr ln t (x + Codec.costs ts) (Codec.cost t.length) 0).length ≤ _
    rw [List.length_append, wlist_length, hcs]; have := h.wl; omega
  · show D.calls + Codec.cost t.length ≤ _
    rw [hcs]; have := h.cl; omega
  · intro a h1 h2
    rw [secAt_snoc ts t x a h1]
    by_cases h3 : a < x + Codec.costs ts
    · rw [if_pos h3, cur_append_not D (Dev.put fr ln t (x + Codec.costs ts) D) _ _ rfl rfl (hnot a h1 h3)]
      exact h.cur a h1 h3
    · rw [if_neg h3, if_pos (by omega)]
      refine ⟨_, rfl, ?_⟩
      have hmem := wlist_mem fr ln t (x + Codec.costs ts) (Codec.cost t.length) 0 (a - (x + Codec.costs ts)) (by omega) (by omega)
      rw [show x + Codec.costs ts + (a - (x + Codec.costs ts)) = a by omega] at hmem
      exact cur_append_mem D (Dev.put fr ln t (x + Codec.costs ts) D) _ _ _ rfl hmem (fun y hy hyk => by
        obtain ⟨k, c⟩ := y
        dsimp only at hyk
        subst hyk
        exact (hkey a h1 (by omega) c hy).2.2)
  · intro a h1 h2 c hc
    rw [secAt_snoc ts t x a h1]
    have hc2 : can D (place fr ln a) c ∨ (place fr ln a, c) ∈ wlist fr ln t (x + Codec.costs ts) (Codec.cost t.length) 0 := by
      rcases hc with hc | hc
      · exact Or.inl (Or.inl hc)
      · rcases List.mem_append.1 hc with hc | hc
        · exact Or.inl (Or.inr hc)
        · exact Or.inr hc
    rcases hc2 with hc | hc
    · rcases h.cn a h1 h2 c hc with hb | ⟨s, hs1, hs2⟩
      · exact Or.inl hb
      · by_cases h3 : a < x + Codec.costs ts
        · rw [if_pos h3]; exact Or.inr ⟨s, hs1, hs2⟩
        · rw [secAt_none ts x a (by omega)] at hs1; cases hs1
    · obtain ⟨h4, h5, h6⟩ := hkey a h1 h2 c hc
      rw [if_neg (by omega), if_pos h5]
      exact Or.inr ⟨_, rfl, h6⟩
  · intro a h1 h2 c hc
    have hm := h.ms
    rw [List.take_append_of_le_length hm] at h2
    have h3 : a < x + Codec.costs ts := by have := costs_take ts must; omega
    rw [secAt_snoc ts t x a h1, if_pos h3]
    have hc2 : can D (place fr ln a) c := by
      rcases hc with hc | hc
      · exact Or.inl hc
      · rcases List.mem_append.1 hc with hc | hc
        · exact Or.inr hc
        · exact absurd rfl (hnot a h1 h3 _ hc)
    exact h.fc a h1 h2 c hc2
theorem PD.flush (h : PD fr ln x ts must D) (hl : 0 < ln) (hfl : fr + ln ≤ 24) : PD fr ln x ts ts.length D.flush ∧ D.flushE = 0 ∧ D.flush.calls = D.calls + 1 ∨ D.calls = 1000 + Codec.costs ts := by
  by_cases hcl : D.calls = 1000 + Codec.costs ts
  · exact Or.inr hcl
  left
  obtain ⟨e1, e2, e3, e4, e5, e6⟩ := flush_shape D h.out
  have hp : ∀ a, place fr ln a < D.L.length := fun a => place_lt fr ln a _ hl (by rw [h.len]; exact hfl)
  have hall : ∀ a, x ≤ a → a < x + Codec.costs ts → ∀ c, can D.flush (place fr ln a) c → ∃ s, Codec.secAt x ts a = some s ∧ c = Codec.secText s := fun a h1 h2 c hc => by
    obtain ⟨s, hs1, hs2⟩ := h.cur a h1 h2
    exact ⟨s, hs1, by rw [flush_only D h.out _ c (hp a) hc, hs2]⟩
  refine ⟨⟨e3.trans h.dn, e4.trans h.ar, ?_, e1.trans h.len, h.fine.flush h.out, h.cst, by rw [e2]; exact Nat.zero_le _, by rw [e5]; have := h.cl; omega, fun a h1 h2 => ?_, fun a h1 h2 c hc => h.cn a h1 h2 c (flush_can D h.out _ c hc), fun a h1 h2 c hc => hall a h1 (by rw [List.take_length] at h2; exact h2) c hc, Nat.le_refl _⟩, e6, e5⟩
  · unfold Dev.flush Dev.begin
    rw [if_neg h.out, if_neg h.out, h.ar]
    exact h.lf
  · obtain ⟨s, hs1, hs2⟩ := h.cur a h1 h2
    refine ⟨s, hs1, ?_⟩
    obtain ⟨s', hs1', hs2'⟩ := hall a h1 h2 _ (cur_can D.flush _ (by rw [e1]; exact hp a))
    rw [hs1] at hs1'
    cases hs1'
    exact hs2'
theorem PD.found (h : PD fr ln x ts must D) (hl : 0 < ln) (hfl : fr + ln ≤ 24) (hx : 1 ≤ x) (hx2 : x + ln ≤ 1099511627776) (d' : Dev) (hL : d'.L.length = 24) (hc : ∀ k c, can d' k c → can D k c) :
    ∃ k, must ≤ k ∧ k ≤ ts.length ∧ Codec.scan (view d' fr ln) ln x false [] x = (Codec.recs x (ts.take k), x + Codec.costs (ts.take k)) ∧ (∀ a, x ≤ a → a < x + Codec.costs (ts.take k) → ∃ s, Codec.secAt x ts a = some s ∧ d'.cur (place fr ln a) = Codec.secText s) := by
  have hv : ∀ a, can D (place fr ln a) (d'.cur (place fr ln a)) := fun a => hc _ _ (cur_can d' _ (place_lt fr ln a _ hl (by rw [hL]; exact hfl)))
  have hcst := h.cst
  have hg : ∀ a, x ≤ a → a < x + ln → view d' fr ln a = Codec.secAt x ts a ∨ Codec.gap (view d' fr ln) a := by
    intro a h1 h2
    rcases h.cn a h1 h2 _ (hv a) with hb | ⟨s, hs1, hs2⟩
    · exact Or.inr hb
    · left
      rw [view_vw, hs2, hs1, (secAt_some (x := x) hs1 h1 (by omega) (by omega)).2]
  obtain ⟨k, hk, e, hq, hst⟩ := Codec.scan_begin (g := view d' fr ln) ts x (ln - Codec.costs ts) (fun a h1 h2 => hg a h1 (by omega)) (fun a h1 h2 => by
    rcases hg a (by omega) (by omega) with h3 | h3
    · rw [secAt_none ts x a h1] at h3
      intro s hs
      rw [h3] at hs
      cases hs
    · exact h3)
  rw [show Codec.costs ts + (ln - Codec.costs ts) = ln by omega] at e
  refine ⟨k, hq must h.ms (fun a h1 h2 => ?_), hk, e, fun a h1 h2 => ?_⟩
  rotate_left
  · have h3 := costs_take ts k
    have h4 := hst a h1 h2
    rcases h.cn a h1 (by omega) _ (hv a) with hb | ⟨s, hs1, hs2⟩
    · exfalso
      obtain ⟨s, hs1, _⟩ := h.cur a h1 (by omega)
      have h5 := (secAt_some (x := x) hs1 h1 (by omega) (by omega)).1
      rw [hs1, view_vw] at h4
      exact hb s h4 h5
    · exact ⟨s, hs1, hs2⟩
  obtain ⟨s, hs1, hs2⟩ := h.fc a h1 h2 _ (hv a)
  rw [view_vw, hs2, hs1, (secAt_some (x := x) hs1 h1 (by have := costs_take ts must; omega) (by omega)).2]
end
theorem recs_get : ∀ (ts : List (List UInt8)) (x i : Nat) (h : i < ts.length), (Codec.recs x ts)[i]? = some ⟨x + Codec.costs (ts.take i), x + Codec.costs (ts.take i) + Codec.cost (ts[i]'h).length - 1, ts[i]'h⟩
  | t :: r, x, 0, h => by simp [Codec.recs, Codec.costs]
  | t :: r, x, i + 1, h => by
    have := recs_get r (x + Codec.cost t.length) i (by simpa using h)
    simp only [Codec.recs, List.getElem?_cons_succ, List.take_succ_cons, Codec.costs, List.getElem_cons_succ]
    rw [this, Nat.add_assoc]
theorem costs_take_succ (ts : List (List UInt8)) (i : Nat) (h : i < ts.length) : Codec.costs (ts.take (i + 1)) = Codec.costs (ts.take i) + Codec.cost (ts[i]'h).length := by
  rw [List.take_succ_eq_append_getElem h, Codec.costs_append]
  simp [Codec.costs]
end Go.Proofs.YtbmhmljbpjimoaaDoor
/- A log and rows that are none of its memory; the contracts of Force and of Append, fitting or not. -/
namespace Go.Proofs.YtbmhmljbpjimoaaDoor
open Go.RowKit
set_option linter.unusedVariables false
set_option maxRecDepth 100000

def Far (w : World) (b lb : Nat) (v : Value) : Prop := ∀ k, v.ownBlock = some k → DFor w b k ∧ k ≠ lb
section
variable {base base' : Nat} {w w' : World} {b lb : Nat} {d d' : Dev} {fr ln head next : Int} {ty : TypeId} {size n n' : Nat} {v v' : Value} {xs xs' : List Value}
theorem Far.nil : Far w b lb (.slice none 0 0) := fun k e => by cases e
theorem Far.step (h : Far w b lb v) (ho : w.ownsRow base ty size v n xs) (hs : LStep b lb w w') : Far w' b lb v ∧ w'.ownsRow base ty size v n xs := by
  refine ⟨fun k hk => ?_, ownsRow_same ho fun k hk => ?_⟩
  · obtain ⟨cur, hc, _⟩ := ownsRow_blk ho hk
    exact ⟨(hs.keep k (block_lt hc) (h k hk).2 (h k hk).1).2, (h k hk).2⟩
  · obtain ⟨cur, hc, _⟩ := ownsRow_blk ho hk
    exact (hs.keep k (block_lt hc) (h k hk).2 (h k hk).1).1
theorem LogAt.grown (h : LogAt base w b lb d fr ln head next) {r : Option Nat} (hg : w.grownBy w' r) (hr : ∀ k, r = some k → DFor w b k ∧ k ≠ lb) : LogAt base w' b lb d fr ln head next := by
  obtain ⟨⟨sv, lv, hd⟩, hlo, hlog, hfar⟩ := h
  have hb : w'.heap[b]? = w.heap[b]? := hg.block b hd.lt (fun e => (hr b e.symm).1.ne rfl)
  refine ⟨⟨sv, lv, hd.same hb (fun k hk => ?_) (fun k hk => ?_)⟩, hlo, (hg.block lb (block_lt hlog) (fun e => (hr lb e.symm).2 rfl)).trans hlog, hfar.same hb⟩
  · obtain ⟨cur, hc, _⟩ := ownsRow_blk hd.sec hk
    exact hg.block k (block_lt hc) (fun e => (hr k e.symm).1.sec sv hd.c0 hk)
  · obtain ⟨cur, hc, _⟩ := ownsRow_blk hd.loo hk
    exact hg.block k (block_lt hc) (fun e => (hr k e.symm).1.loo lv hd.c1 hk)
theorem Far.grown (h : Far w b lb v) (hl : LogAt base w b lb d fr ln head next) (hg : w.grownBy w' v.ownBlock) (hf : v'.ownBlock = v.ownBlock ∨ ∀ k, v'.ownBlock = some k → w.heap.size ≤ k) : Far w' b lb v' := by
  have hb : w'.heap[b]? = w.heap[b]? := hg.block b hl.dev.lt (fun e => (h b e.symm).1.ne rfl)
  intro k hk
  rcases hf with hf | hf
  · rw [hf] at hk
    exact ⟨(h k hk).1.same hb, (h k hk).2⟩
  · have := hf k hk
    exact ⟨(DFor.new hl.dev this).same hb, by have := block_lt hl.log; omega⟩
theorem Far.new (hl : LogAt base w b lb d fr ln head next) (hk : ∀ k, v.ownBlock = some k → w.heap.size ≤ k) (hb : Below w.heap.size w w') : Far w' b lb v := fun k e =>
  ⟨(DFor.new hl.dev (hk k e)).same (hb.block b hl.dev.lt), by have := hk k e; have := block_lt hl.log; omega⟩
end

set_option maxHeartbeats 1600000 in
theorem force_any {base : Nat} {w : World} {b lb : Nat} {d : Dev} {fr ln head next : Int} (h : LogAt base w b lb d fr ln head next) (hok : d.Ok) (hl : d.left < 9223372036854775808) (hc : d.calls < 4611686018427387904) (hn : d.W.length ≤ 1099511627776) (hm : d.L.length ≤ 1099511627776) :
    Calls Tryd.prog 7 #[.pointer (some ⟨lb, 0, none⟩)] w fun e w' => e = .returned (.int .i64 d.flushE) ∧ LogAt base w' b lb d.flush fr ln head next ∧ LStep b lb w w' := by
  have HFL := hide (flush_any h.dev hok hl hc hn hm)
  obtain ⟨c0, c1, c2, c3, c4⟩ := wl_cells h.log
  generalize d.flushE = E at *
  clear hok hl hc hn hm
  go_enter Tryd.func7, Tryd.ntmps7
  go_wp2_with fail
  refine (unhide HFL).mono ?_
  rintro e w1 ⟨rfl, hd1, hs1⟩
  have HE := hide (show LogAt base w1 b lb d.flush fr ln head next ∧ LStep b lb w w1 from ⟨h.step hd1 hs1, LStep.of hs1⟩)
  clear hd1 hs1 HFL
  go_wp2_with fail
  go_ret
  exact ⟨rfl, unhide HE⟩

/- An Append of a log whose device has power: it fits, or nothing changes. -/
theorem append_law {base : Nat} {w : World} {b lb : Nat} {D : Dev} {fr ln x must : Nat} {ts : List (List UInt8)} (hp : PD fr ln x ts must D) (h : LogAt base w b lb D fr ln x ((x + Codec.costs ts : Nat) : Int)) (t : List UInt8) (hB : base ≤ w.heap.size) (ht : t.length ≤ 1000) (hl : 0 < ln) (hfl : fr + ln ≤ 24) (hx : 1 ≤ x) (hx2 : x + ln ≤ 1099511627776) :
    Calls Tryd.prog 6 #[.pointer (some ⟨lb, 0, none⟩), .string (S t)] w fun e w' => ∃ (er r0 r1 : Int) (rt : ByteArray), e = .returned (.tuple #[.agg #[.int .i64 r0, .int .i64 r1, .string rt], .int .i64 er]) ∧ LStep b lb w w' ∧
      ((er = 0 ∧ Codec.costs ts + Codec.cost t.length ≤ ln ∧ r0 = ((x + Codec.costs ts : Nat) : Int) ∧ r1 = ((x + Codec.costs ts + Codec.cost t.length - 1 : Nat) : Int) ∧ rt = S t ∧ PD fr ln x (ts ++ [t]) must (Dev.put fr ln t (x + Codec.costs ts) D) ∧ LogAt base w' b lb (Dev.put fr ln t (x + Codec.costs ts) D) fr ln x ((x + Codec.costs (ts ++ [t]) : Nat) : Int)) ∨
       (er = 13 ∧ ln < Codec.costs ts + Codec.cost t.length ∧ r0 = 0 ∧ r1 = 0 ∧ rt = ⟨#[]⟩ ∧ LogAt base w' b lb D fr ln x ((x + Codec.costs ts : Nat) : Int))) := by
  have hcs : Codec.costs (ts ++ [t]) = Codec.costs ts + Codec.cost t.length := by rw [Codec.costs_append]; simp [Codec.costs]
  have hcst := hp.cst
  by_cases hfit : Codec.costs ts + Codec.cost t.length ≤ ln
  · obtain ⟨h1, h2⟩ := hp.app t hl hfl hx hx2 hfit
    have hap := append_put (head := x) (x := x + Codec.costs ts) h t hB (by omega) (by omega) (by omega) (by omega) (by omega) (by omega) (by omega) (by rw [hp.lf]; omega) (by have := hp.cl; omega) (by have := hp.wl; omega)
    rw [h2] at hap
    refine hap.mono ?_
    rintro e w' ⟨k1, k2, k3⟩
    obtain ⟨rfl, hl'⟩ := k1 rfl
    refine ⟨0, _, _, _, rfl, k3, Or.inl ⟨rfl, hfit, rfl, rfl, rfl, h1, ?_⟩⟩
    rw [hcs, ← Nat.add_assoc]
    exact hl'
  · refine (append_full (head := x) (x := x + Codec.costs ts) h t (by omega) (by omega) (by omega) (by omega) (by omega)).mono ?_
    rintro e w' ⟨rfl, hb⟩
    obtain ⟨h1, h2⟩ := h.later hb
    exact ⟨13, 0, 0, ⟨#[]⟩, rfl, h2, Or.inr ⟨rfl, by omega, rfl, rfl, rfl, h1⟩⟩
end Go.Proofs.YtbmhmljbpjimoaaDoor
