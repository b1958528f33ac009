/- Plain mathematics of a log: the sectors of a text, what is found of sectors, stamp by stamp. No program is named here. -/
import Derived.Test.YtajcaglbbdbibaaDoorSMath
namespace Codec

structure Rec where
  first : Nat
  last : Nat
  text : List UInt8

def cost (n : Nat) : Nat := if n = 0 then 1 else (n - 1) / 44 + 1
theorem cost_pos (n : Nat) : 1 ≤ cost n := by unfold cost; split <;> omega
theorem cost_le (n k : Nat) (h : n ≤ 44 * k) (hk : 1 ≤ k) : cost n ≤ k := by unfold cost; split <;> omega
theorem cost_up (n : Nat) : n ≤ 44 * cost n := by unfold cost; split <;> omega
theorem cost_low (n : Nat) (h : 1 < cost n) : 44 * (cost n - 1) < n := by unfold cost at *; split at h <;> simp_all <;> omega

/- Does it follow? -/
def fits (x : Sec) (a : Nat) (o : Bool) : Prop := x.stamp = a ∧ x.mark ≤ 3 ∧ (x.mark % 2 = 0 ↔ o = true)
instance (x : Sec) (a : Nat) (o : Bool) : Decidable (fits x a o) := by unfold fits; infer_instance
def scan (g : Nat → Option Sec) : Nat → Nat → Bool → List UInt8 → Nat → List Rec × Nat
  | 0, _, _, _, f => ([], f)
  | n + 1, a, o, t, f => match g a with
    | none => ([], f)
    | some x => if fits x a o then
        if x.mark < 2 then scan g n (a + 1) true (t ++ x.data) f
        else (⟨f, a, t ++ x.data⟩ :: (scan g n (a + 1) false [] (a + 1)).1, (scan g n (a + 1) false [] (a + 1)).2)
      else ([], f)

theorem scan_none {g : Nat → Option Sec} {a : Nat} (h : g a = none) (n : Nat) (o : Bool) (t : List UInt8) (f : Nat) : scan g n a o t f = ([], f) := by
  cases n with
  | zero => rfl
  | succ n => unfold scan; rw [h]
theorem scan_not {g : Nat → Option Sec} {a : Nat} {x : Sec} {o : Bool} (h : g a = some x) (hx : ¬ fits x a o) (n : Nat) (t : List UInt8) (f : Nat) : scan g n a o t f = ([], f) := by
  cases n with
  | zero => rfl
  | succ n => unfold scan; rw [h]; dsimp only; rw [if_neg hx]
theorem scan_open {g : Nat → Option Sec} {a : Nat} {x : Sec} {o : Bool} (h : g a = some x) (hx : fits x a o) (hm : x.mark < 2) (n : Nat) (t : List UInt8) (f : Nat) : scan g (n + 1) a o t f = scan g n (a + 1) true (t ++ x.data) f := by
  rw [scan]; rw [h]; dsimp only; rw [if_pos hx, if_pos hm]
theorem scan_whole {g : Nat → Option Sec} {a : Nat} {x : Sec} {o : Bool} (h : g a = some x) (hx : fits x a o) (hm : ¬ x.mark < 2) (n : Nat) (t : List UInt8) (f : Nat) : scan g (n + 1) a o t f = (⟨f, a, t ++ x.data⟩ :: (scan g n (a + 1) false [] (a + 1)).1, (scan g n (a + 1) false [] (a + 1)).2) := by
  rw [scan]; rw [h]; dsimp only; rw [if_pos hx, if_neg hm]

/- A text's sectors: the piece with number j. -/
def piece (s : List UInt8) (j : Nat) : List UInt8 := (s.drop (44 * j)).take 44
def mk (s : List UInt8) (j : Nat) : Nat := (if j = 0 then 1 else 0) + (if j + 1 = cost s.length then 2 else 0)
def sec (s : List UInt8) (a j : Nat) : Sec := ⟨a + j, mk s j, piece s j⟩
theorem piece_length (s : List UInt8) (j : Nat) : (piece s j).length ≤ 44 := by unfold piece; rw [List.length_take]; omega
theorem mk_par (s : List UInt8) (j : Nat) : mk s j % 2 = 0 ↔ decide (j ≠ 0) = true := by
  unfold mk
  by_cases h0 : j = 0
  · rw [if_pos h0]
    simp only [h0, ne_eq, not_true_eq_false, decide_false, Bool.false_eq_true, iff_false]
    split <;> omega
  · rw [if_neg h0]
    simp only [h0, ne_eq, not_false_eq_true, decide_true, iff_true]
    split <;> omega
theorem mk_le (s : List UInt8) (j : Nat) : mk s j ≤ 3 := by unfold mk; split <;> split <;> omega
theorem sec_ok (s : List UInt8) (a j : Nat) (h : a + j ≤ 1099511627776) : (sec s a j).Ok := ⟨h, by have := mk_le s j; show mk s j ≤ 255; omega, by have := piece_length s j; show (piece s j).length ≤ 50; omega⟩

/- The records of texts, one behind the other. -/
def recs (a : Nat) : List (List UInt8) → List Rec
  | [] => []
  | s :: r => ⟨a, a + cost s.length - 1, s⟩ :: recs (a + cost s.length) r
def costs : List (List UInt8) → Nat
  | [] => 0
  | s :: r => cost s.length + costs r
theorem costs_append (a b : List (List UInt8)) : costs (a ++ b) = costs a + costs b := by
  induction a with
  | nil => simp [costs]
  | cons s r ih => simp [costs, ih]; omega
theorem recs_append (x : Nat) (a b : List (List UInt8)) : recs x (a ++ b) = recs x a ++ recs (x + costs a) b := by
  induction a generalizing x with
  | nil => simp [recs, costs]
  | cons s r ih => simp [recs, costs, ih, Nat.add_assoc]
theorem recs_length (x : Nat) (a : List (List UInt8)) : (recs x a).length = a.length := by
  induction a generalizing x with
  | nil => rfl
  | cons s r ih => simp [recs, ih]
/- The sector that texts from x on put at stamp a. -/
def secAt (x : Nat) : List (List UInt8) → Nat → Option Sec
  | [], _ => none
  | s :: r, a => if a < x + cost s.length then some (sec s x (a - x)) else secAt (x + cost s.length) r a

theorem piece_all (s : List UInt8) (n : Nat) : ∀ j, s.length ≤ 44 * (j + n) → 44 * j ≤ s.length → s.take (44 * j) ++ ((List.range n).map fun i => piece s (j + i)).flatten = s := by
  induction n with
  | zero => intro j h1 h2; simp; rw [List.take_of_length_le (by omega)]
  | succ n ih =>
    intro j h1 h2
    rw [List.range_succ_eq_map, List.map_cons, List.flatten_cons, List.map_map, ← List.append_assoc]
    have e : s.take (44 * j) ++ piece s (j + 0) = s.take (44 * (j + 1)) := by
      unfold piece
      rw [Nat.add_zero, show 44 * (j + 1) = 44 * j + 44 by omega, List.take_add]
    rw [e]
    by_cases h3 : 44 * (j + 1) ≤ s.length
    · have := ih (j + 1) (by omega) h3
      have e2 : (fun i => piece s (j + i)) ∘ Nat.succ = fun i => piece s (j + 1 + i) := by
        funext i; show piece s (j + Nat.succ i) = _; congr 1; omega
      rw [e2]; exact this
    · rw [List.take_of_length_le (by omega)]
      have : ∀ m, ((List.range m).map ((fun i => piece s (j + i)) ∘ Nat.succ)).flatten = [] := by
        intro m
        rw [List.flatten_eq_nil_iff]
        intro l hl
        obtain ⟨i, hi, rfl⟩ := List.mem_map.1 hl
        show piece s (j + Nat.succ i) = []
        unfold piece
        rw [List.drop_of_length_le (by omega)]
        rfl
      rw [this, List.append_nil]

/- A record from its piece j on: if all stand it is found; if one doesn't, nothing more is. -/
theorem scan_text {g : Nat → Option Sec} (s : List UInt8) (x f : Nat) (m : Nat) : ∀ n j, j + n = cost s.length → 1 ≤ n → (∀ i, j ≤ i → i < cost s.length → g (x + i) = some (sec s x i)) →
    scan g (n + m) (x + j) (decide (j ≠ 0)) (s.take (44 * j)) f = (⟨f, x + cost s.length - 1, s⟩ :: (scan g m (x + cost s.length) false [] (x + cost s.length)).1, (scan g m (x + cost s.length) false [] (x + cost s.length)).2) := by
  intro n
  induction n with
  | zero => intro j _ h; omega
  | succ n ih =>
    intro j hj _ hg
    have hgj := hg j (Nat.le_refl _) (by omega)
    have hup := cost_up s.length
    have hfit : fits (sec s x j) (x + j) (decide (j ≠ 0)) := by
      exact ⟨rfl, mk_le s j, mk_par s j⟩
    have et : s.take (44 * j) ++ (sec s x j).data = s.take (44 * (j + 1)) := by
      show s.take (44 * j) ++ piece s j = _
      unfold piece
      rw [show 44 * (j + 1) = 44 * j + 44 by omega, List.take_add]
    rw [show n + 1 + m = (n + m) + 1 by omega]
    by_cases hn : n = 0
    · have hm : ¬ (sec s x j).mark < 2 := by
        show ¬ mk s j < 2
        unfold mk
        rw [if_pos (show j + 1 = cost s.length by omega)]
        split <;> omega
      rw [scan_whole hgj hfit hm, et, List.take_of_length_le (by rw [show j + 1 = cost s.length by omega]; exact hup)]
      subst hn
      rw [Nat.zero_add, show x + j + 1 = x + cost s.length by omega, show x + cost s.length - 1 = x + j by omega]
    · have hm : (sec s x j).mark < 2 := by
        show mk s j < 2
        unfold mk
        rw [if_neg (show ¬ j + 1 = cost s.length by omega)]
        split <;> omega
      rw [scan_open hgj hfit hm, et]
      have := ih (j + 1) (by omega) (by omega) (fun i h1 h2 => hg i (by omega) h2)
      rw [show x + j + 1 = x + (j + 1) by omega]
      rw [show (decide (j + 1 ≠ 0)) = true by simp] at this
      exact this
/- At a there is no sector of that stamp. -/
def gap (g : Nat → Option Sec) (a : Nat) : Prop := ∀ x, g a = some x → x.stamp ≠ a
theorem scan_gap {g : Nat → Option Sec} {a : Nat} (h : gap g a) (n : Nat) (o : Bool) (t : List UInt8) (f : Nat) : scan g n a o t f = ([], f) := by
  cases e : g a with
  | none => exact scan_none e n o t f
  | some x => exact scan_not e (fun hx => h x e hx.1) n t f
theorem scan_lost {g : Nat → Option Sec} (s : List UInt8) (x f : Nat) (m : Nat) : ∀ n j, j + n = cost s.length → 1 ≤ n → (∀ i, j ≤ i → i < cost s.length → g (x + i) = some (sec s x i) ∨ gap g (x + i)) → (∃ i, j ≤ i ∧ i < cost s.length ∧ gap g (x + i)) →
    scan g (n + m) (x + j) (decide (j ≠ 0)) (s.take (44 * j)) f = ([], f) := by
  intro n
  induction n with
  | zero => intro j _ h; omega
  | succ n ih =>
    intro j hj _ hg hx
    rcases hg j (Nat.le_refl _) (by omega) with hgj | hgap
    · have hfit : fits (sec s x j) (x + j) (decide (j ≠ 0)) := by
        exact ⟨rfl, mk_le s j, mk_par s j⟩
      obtain ⟨i, hi1, hi2, hi3⟩ := hx
      have hne : i ≠ j := by
        rintro rfl
        exact hi3 _ hgj rfl
      have hm : (sec s x j).mark < 2 := by
        show mk s j < 2
        unfold mk
        rw [if_neg (show ¬ j + 1 = cost s.length by omega)]
        split <;> omega
      have et : s.take (44 * j) ++ (sec s x j).data = s.take (44 * (j + 1)) := by
        show s.take (44 * j) ++ piece s j = _
        unfold piece
        rw [show 44 * (j + 1) = 44 * j + 44 by omega, List.take_add]
      rw [show n + 1 + m = (n + m) + 1 by omega, scan_open hgj hfit hm, et]
      have := ih (j + 1) (by omega) (by omega) (fun i h1 h2 => hg i (by omega) h2) ⟨i, by omega, hi2, hi3⟩
      rw [show x + j + 1 = x + (j + 1) by omega]
      rw [show (decide (j + 1 ≠ 0)) = true by simp] at this
      exact this
    · exact scan_gap hgap _ _ _ _

/- Texts one behind the other, of whose sectors some are lost: a beginning of them is found; all that stand wholly ahead of a gap are. -/
theorem scan_begin {g : Nat → Option Sec} : ∀ (l : List (List UInt8)) (x m : Nat), (∀ a, x ≤ a → a < x + costs l → g a = secAt x l a ∨ gap g a) → (∀ a, x + costs l ≤ a → a < x + costs l + m → gap g a) →
    ∃ k, k ≤ l.length ∧ scan g (costs l + m) x false [] x = (recs x (l.take k), x + costs (l.take k)) ∧ (∀ q, q ≤ l.length → (∀ a, x ≤ a → a < x + costs (l.take q) → g a = secAt x l a) → q ≤ k) ∧ (∀ a, x ≤ a → a < x + costs (l.take k) → g a = secAt x l a)
  | [], x, m, _, h2 => by
    refine ⟨0, Nat.le_refl _, ?_, fun q hq _ => hq, fun a h1 h2 => by simp [costs] at h2; omega⟩
    show scan g (0 + m) x false [] x = ([], x + 0)
    rw [Nat.zero_add]
    cases m with
    | zero => rfl
    | succ m => rw [scan_gap (h2 x (by simp [costs]) (by simp [costs])) _ _ _ _]; rfl
  | s :: r, x, m, h1, h2 => by
    have hc := cost_pos s.length
    have hs : ∀ i, i < cost s.length → g (x + i) = some (sec s x i) ∨ gap g (x + i) := by
      intro i hi
      have := h1 (x + i) (by omega) (by simp [costs]; omega)
      rw [secAt, if_pos (by omega), show x + i - x = i by omega] at this
      exact this
    by_cases hall : ∀ i, i < cost s.length → g (x + i) = some (sec s x i)
    · obtain ⟨k, hk, e, hq, hst⟩ := scan_begin r (x + cost s.length) m (fun a ha hb => by
        have := h1 a (by omega) (by simp [costs]; omega)
        rw [secAt, if_neg (by omega)] at this
        exact this) (fun a ha hb => h2 a (by simp [costs]; omega) (by simp [costs]; omega))
      refine ⟨k + 1, by simp; omega, ?_, ?_, ?_⟩
      · have := scan_text s x x (costs r + m) (cost s.length) 0 (by omega) hc (fun i _ hi => hall i hi)
        rw [show costs (s :: r) + m = cost s.length + (costs r + m) by simp [costs]; omega]
        simp only [Nat.add_zero, ne_eq, not_true_eq_false, decide_false, Nat.mul_zero, List.take_zero] at this
        rw [this, e]
        simp [recs, costs, Nat.add_assoc]
      · intro q hq1 hq2
        cases q with
        | zero => omega
        | succ q =>
          have := hq q (by simpa using hq1) (fun a ha hb => by
            have := hq2 a (by omega) (by simp [costs]; omega)
            rw [secAt, if_neg (by omega)] at this
            exact this)
          omega
      · intro a ha hb
        rw [secAt]
        by_cases h3 : a < x + cost s.length
        · rw [if_pos h3]
          have := hall (a - x) (by omega)
          rw [show x + (a - x) = a by omega] at this
          exact this
        · rw [if_neg h3]
          exact hst a (by omega) (by simp [costs] at hb; omega)
    · obtain ⟨i, hi⟩ := Classical.not_forall.1 hall
      have hil : i < cost s.length := Classical.byContradiction fun hn => hi (fun h => absurd h hn)
      have hgi : ¬ g (x + i) = some (sec s x i) := fun e => hi (fun _ => e)
      have hgap : gap g (x + i) := (hs i hil).resolve_left hgi
      refine ⟨0, Nat.zero_le _, ?_, ?_, fun a h1 h2 => by simp [costs] at h2; omega⟩
      · have := scan_lost s x x (costs r + m) (cost s.length) 0 (by omega) hc (fun i _ h => hs i h) ⟨i, Nat.zero_le _, hil, hgap⟩
        rw [show costs (s :: r) + m = cost s.length + (costs r + m) by simp [costs]; omega]
        simp only [Nat.add_zero, ne_eq, not_true_eq_false, decide_false, Nat.mul_zero, List.take_zero] at this
        rw [this]
        simp [recs, costs]
      · intro q hq1 hq2
        cases q with
        | zero => omega
        | succ q =>
          exfalso
          apply hgi
          have := hq2 (x + i) (by omega) (by simp [costs]; omega)
          rw [secAt, if_pos (by omega), show x + i - x = i by omega] at this
          exact this

theorem scan_fin {g : Nat → Option Sec} : ∀ n a o t f, f ≤ a → (scan g n a o t f).1 = [] ∧ (scan g n a o t f).2 = f ∨ a < (scan g n a o t f).2
  | 0, a, o, t, f, h => Or.inl ⟨rfl, rfl⟩
  | n + 1, a, o, t, f, h => by
    cases e : g a with
    | none => rw [scan_none e]; exact Or.inl ⟨rfl, rfl⟩
    | some x =>
      by_cases hf : fits x a o
      · by_cases hm : x.mark < 2
        · rw [scan_open e hf hm]
          rcases scan_fin (g := g) n (a + 1) true (t ++ x.data) f (by omega) with h1 | h1
          · exact Or.inl h1
          · exact Or.inr (by omega)
        · rw [scan_whole e hf hm]
          right
          show a < (scan g n (a + 1) false [] (a + 1)).2
          rcases scan_fin (g := g) n (a + 1) false [] (a + 1) (Nat.le_refl _) with h1 | h1
          · rw [h1.2]; omega
          · omega
      · rw [scan_not e hf]; exact Or.inl ⟨rfl, rfl⟩
/- Where sectors behind the end are lost, the same is found. -/
theorem scan_less {g g' : Nat → Option Sec} : ∀ n a o t f, f ≤ a → (∀ c, a ≤ c → c < a + n → g' c = g c ∨ gap g' c) → (∀ c, a ≤ c → c < (scan g n a o t f).2 → g' c = g c) → scan g' n a o t f = scan g n a o t f
  | 0, a, o, t, f, h, h1, h2 => rfl
  | n + 1, a, o, t, f, h, h1, h2 => by
    rcases h1 a (Nat.le_refl _) (by omega) with e | hgap
    · cases eg : g a with
      | none => rw [scan_none (e.trans eg), scan_none eg]
      | some x =>
        have eg' := e.trans eg
        by_cases hf : fits x a o
        · by_cases hm : x.mark < 2
          · rw [scan_open eg hf hm] at h2 ⊢
            rw [scan_open eg' hf hm]
            exact scan_less n (a + 1) true (t ++ x.data) f (by omega) (fun c hc hd => h1 c (by omega) (by omega)) (fun c hc hd => h2 c (by omega) hd)
          · rw [scan_whole eg hf hm] at h2 ⊢
            rw [scan_whole eg' hf hm]
            rw [scan_less n (a + 1) false [] (a + 1) (Nat.le_refl _) (fun c hc hd => h1 c (by omega) (by omega)) (fun c hc hd => h2 c (by omega) hd)]
        · rw [scan_not eg' hf, scan_not eg hf]
    · rw [scan_gap hgap]
      rcases scan_fin (g := g) (n + 1) a o t f h with h3 | h3
      · exact Prod.ext h3.1.symm h3.2.symm
      · have e := h2 a (Nat.le_refl _) h3
        cases eg : g a with
        | none => rw [scan_none eg]
        | some x =>
          have : ¬ fits x a o := fun hf => hgap x (e.trans eg) hf.1
          rw [scan_not eg this]
end Codec
