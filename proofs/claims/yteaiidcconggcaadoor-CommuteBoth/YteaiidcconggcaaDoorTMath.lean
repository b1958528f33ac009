/- Answers, and the state behind one: plain functions, and what holds of them. -/
import Derived.Test.YteaiidcconggcaaDoorVTidy
import Derived.Test.YteaiidcconggcaaDoorMTidy
import Derived.Test.YteaiidcconggcaaDoorATrans
namespace Go.Proofs.YteaiidcconggcaaDoor
open Go.RowKit
set_option linter.unusedVariables false
set_option maxRecDepth 100000

instance : DecidableEq MR := fun a b => decidable_of_iff (a.code = b.code ∧ a.text = b.text ∧ a.n = b.n) ⟨fun h => by cases a; cases b; simp_all, fun h => by subst h; exact ⟨rfl, rfl, rfl⟩⟩

/- Where a key stands: its row's place, or how many rows there are. -/
def hits (key : List UInt8) : List (List UInt8 × List UInt8) → Nat
  | [] => 0
  | x :: t => if x.1 = key then 0 else hits key t + 1
theorem hits_le (key : List UInt8) (rows : List (List UInt8 × List UInt8)) : hits key rows ≤ rows.length := by
  induction rows with
  | nil => exact Nat.le_refl _
  | cons x t ih =>
    unfold hits
    split
    · exact Nat.zero_le _
    · simp; exact ih
theorem hits_past : ∀ (key : List UInt8) (rows : List (List UInt8 × List UInt8)) (k : Nat), (∀ j (h : j < rows.length), j < k → (rows[j]'h).1 ≠ key) → ∀ (hk : k < rows.length), (rows[k]'hk).1 = key → hits key rows = k
  | key, [], k, _, hk, _ => by cases hk
  | key, x :: t, 0, _, _, e => by
    unfold hits
    rw [if_pos (by simpa using e)]
  | key, x :: t, k + 1, h, hk, e => by
    unfold hits
    rw [if_neg (show ¬ x.1 = key from h 0 (by simp) (by omega))]
    rw [hits_past key t k (fun j hj hjk => h (j + 1) (by simpa using hj) (by omega)) (by simpa using hk) (by simpa using e)]
theorem hits_none : ∀ (key : List UInt8) (rows : List (List UInt8 × List UInt8)), (∀ j (h : j < rows.length), (rows[j]'h).1 ≠ key) → hits key rows = rows.length
  | key, [], _ => rfl
  | key, x :: t, h => by
    unfold hits
    rw [if_neg (show ¬ x.1 = key from h 0 (by simp))]
    rw [hits_none key t fun j hj => h (j + 1) (by simpa using hj)]
    rfl
theorem hits_key : ∀ (key : List UInt8) (rows : List (List UInt8 × List UInt8)) (h : hits key rows < rows.length), (rows[hits key rows]'h).1 = key
  | key, [], h => by cases h
  | key, x :: t, h => by
    by_cases e : x.1 = key
    · have e0 : hits key (x :: t) = 0 := by unfold hits; rw [if_pos e]
      simp only [e0]; exact e
    · have e0 : hits key (x :: t) = hits key t + 1 := by conv => lhs; unfold hits; rw [if_neg e]
      simp only [e0, List.getElem_cons_succ]
      exact hits_key key t (by rw [e0] at h; simpa using h)
theorem hits_not : ∀ (key : List UInt8) (rows : List (List UInt8 × List UInt8)), hits key rows = rows.length → ∀ x ∈ rows, x.1 ≠ key
  | key, [], _, x, hx => by cases hx
  | key, y :: t, h, x, hx => by
    unfold hits at h
    by_cases e : y.1 = key
    · rw [if_pos e] at h; simp at h
    · rw [if_neg e] at h
      rcases List.mem_cons.mp hx with rfl | hx
      · exact e
      · exact hits_not key t (by simpa using h) x hx

def VS.at (s : VS) (key : List UInt8) : Nat := hits key s.rows
def VS.has (s : VS) (key : List UInt8) : Bool := decide (hits key s.rows < s.rows.length)
def VS.without (s : VS) (i : Nat) : VS := ⟨s.kind, s.n, s.rows.eraseIdx i⟩
def VS.gone (s : VS) (key : List UInt8) : VS := s.without (hits key s.rows)
theorem VS.gone_no {s : VS} {key : List UInt8} (h : ¬ hits key s.rows < s.rows.length) : s.gone key = s := by
  unfold VS.gone VS.without
  rw [List.eraseIdx_of_length_le (by omega)]

/- All answers. -/
def okR (b : Bool) : MR := if b then ⟨1, [], 0⟩ else ⟨2, [], 0⟩
def tk (s : VS) : Nat → List MR
  | 0 => []
  | k + 1 => tk s k ++ (if k = 0 ∨ s.key k ≠ s.key (k - 1) then [⟨1, s.key k, 0⟩] else [])
theorem tk_len (s : VS) : ∀ k, (tk s k).length ≤ k
  | 0 => Nat.le_refl _
  | k + 1 => by
    have := tk_len s k
    unfold tk
    split <;> simp <;> omega
def takes (s : VS) : List MR := if s.rows.length = 0 then [okR false] else tk s s.rows.length
def frontR (s : VS) : MR := if s.rows.length = 0 then okR false else ⟨1, s.key 0, 0⟩
def lookR (s : VS) (key : List UInt8) : MR := if s.has key then ⟨1, s.val (hits key s.rows), 0⟩ else okR false
def answers (s : VS) (c : MC) : List MR :=
  if (mfact c.op).kind ≠ s.kind then []
  else if c.op = 1 then [⟨1, s.key 0, 0⟩]
  else if c.op = 4 ∨ c.op = 7 then [⟨1, [], s.n⟩]
  else if c.op = 6 then [okR (decide (c.n ≤ s.n))]
  else if c.op = 8 ∨ c.op = 11 then [okR (!s.has c.a)]
  else if c.op = 9 ∨ c.op = 10 ∨ c.op = 12 then [okR (s.has c.a)]
  else if c.op = 13 then [lookR s c.a]
  else if c.op = 15 then [frontR s]
  else if c.op = 17 then takes s
  else [okR true]
def legal (s : VS) (c : MC) (r : MR) : Bool := decide (r ∈ answers s c)
theorem answers_len (s : VS) (c : MC) : (answers s c).length ≤ s.rows.length + 1 := by
  unfold answers
  repeat' split
  all_goals first | simp | (unfold takes; split <;> first | simp | (have := tk_len s s.rows.length; omega))

/- The state behind an answer. -/
def applyBy (put : VS → List UInt8 × List UInt8 → VS) (s : VS) (c : MC) (r : MR) : VS :=
  if (mfact c.op).kind ≠ s.kind ∨ mchanges c.op c.n r.code = false then s
  else if c.op = 2 then (if c.a = [] then ⟨s.kind, s.n, []⟩ else put ⟨s.kind, s.n, []⟩ (c.a, []))
  else if c.op = 3 ∨ c.op = 5 then ⟨s.kind, wrap64 (s.n + c.n), s.rows⟩
  else if c.op = 6 then ⟨s.kind, wrap64 (s.n - c.n), s.rows⟩
  else if c.op = 8 ∨ c.op = 11 ∨ c.op = 14 ∨ c.op = 16 then put s (c.a, c.b)
  else if c.op = 9 ∨ c.op = 12 then s.gone c.a
  else s.gone r.text
def apply1 : VS → MC → MR → VS := applyBy VS.with
def apply2 : VS → MC → MR → VS := applyBy VS.rwith

/- States whose rows stand by their keys. -/
def Stand (l : List (List UInt8 × List UInt8)) : Prop := l.Pairwise fun x y => Codec.lt y.1 x.1 = false
theorem lt_false_trans {a b c : List UInt8} (h1 : Codec.lt b a = false) (h2 : Codec.lt c b = false) : Codec.lt c a = false := by
  rcases Codec.ltt_or a b with h | h | h
  · rcases Codec.ltt_or b c with g | g | g
    · exact Codec.lt_asym _ _ (Codec.ltt_trans _ _ _ h g)
    · subst g; exact h1
    · rw [h2] at g; cases g
  · subst h; exact h2
  · rw [h1] at h; cases h
theorem putF_mem {r x : List UInt8 × List UInt8} {l : List (List UInt8 × List UInt8)} (h : x ∈ putF r l) : x = r ∨ x ∈ l := by
  induction l with
  | nil => simpa [putF] using h
  | cons y t ih =>
    unfold putF at h
    split at h
    · rcases List.mem_cons.mp h with h | h
      · exact Or.inl h
      · exact Or.inr h
    · rcases List.mem_cons.mp h with h | h
      · exact Or.inr (by rw [h]; exact List.mem_cons_self ..)
      · rcases ih h with h | h
        · exact Or.inl h
        · exact Or.inr (List.mem_cons_of_mem _ h)
theorem Stand.put {l : List (List UInt8 × List UInt8)} (h : Stand l) (r : List UInt8 × List UInt8) : Stand (putF r l) := by
  induction l with
  | nil => exact List.pairwise_singleton _ _
  | cons y t ih =>
    obtain ⟨h1, h2⟩ := List.pairwise_cons.mp h
    unfold putF
    split
    · rename_i hlt
      refine List.pairwise_cons.mpr ⟨fun z hz => ?_, h⟩
      rcases List.mem_cons.mp hz with rfl | hz
      · exact Codec.lt_asym _ _ hlt
      · exact lt_false_trans (Codec.lt_asym _ _ hlt) (h1 z hz)
    · rename_i hlt
      refine List.pairwise_cons.mpr ⟨fun z hz => ?_, ih h2⟩
      rcases putF_mem hz with rfl | hz
      · simpa using hlt
      · exact h1 z hz
theorem Stand.erase {l : List (List UInt8 × List UInt8)} (h : Stand l) (i : Nat) : Stand (l.eraseIdx i) := h.sublist (List.eraseIdx_sublist l i)
theorem putF_split (r : List UInt8 × List UInt8) : ∀ (A B : List (List UInt8 × List UInt8)), (∀ x ∈ A, Codec.lt r.1 x.1 = false) → (∀ x, B.head? = some x → Codec.lt r.1 x.1 = true) → putF r (A ++ B) = A ++ r :: B
  | [], [], _, _ => rfl
  | [], y :: t, _, h => by
    show putF r (y :: t) = _
    unfold putF
    rw [if_pos (h y rfl)]; rfl
  | x :: A, B, h1, h2 => by
    show putF r (x :: (A ++ B)) = _
    unfold putF
    rw [if_neg (by rw [h1 x (List.mem_cons_self ..)]; simp), putF_split r A B (fun z hz => h1 z (List.mem_cons_of_mem _ hz)) h2]
    rfl
theorem place_above (rows : List (List UInt8 × List UInt8)) (key : List UInt8) : ∀ n, ∀ j, place rows key n ≤ j → j < n → Codec.lt key (rows.getD j ([], [])).1 = true
  | 0, j, _, h => by cases h
  | m + 1, j, h1, h2 => by
    unfold place at h1
    split at h1
    · rename_i hl
      by_cases hj : j = m
      · subst hj; exact hl
      · exact place_above rows key m j h1 (by omega)
    · omega
theorem place_below (rows : List (List UInt8 × List UInt8)) (key : List UInt8) : ∀ n, 0 < place rows key n → Codec.lt key (rows.getD (place rows key n - 1) ([], [])).1 = false
  | 0, h => by cases h
  | m + 1, h => by
    unfold place at h ⊢
    split
    · rename_i hl
      rw [if_pos hl] at h
      exact place_below rows key m h
    · rename_i hl
      simpa using hl
theorem with_stand {s : VS} (h : s.kind = 6 ∨ Stand s.rows) (r : List UInt8 × List UInt8) : s.with r = s.rwith r := by
  unfold VS.with VS.rwith VS.spot putG
  by_cases h6 : s.kind = 6
  · rw [if_pos h6, if_pos h6, List.take_length, List.drop_length, List.append_nil]
  rw [if_neg h6, if_neg h6]
  have hst := h.resolve_left h6
  have hle := place_le s.rows r.1 s.rows.length
  have ha := place_above s.rows r.1 s.rows.length
  have hb := place_below s.rows r.1 s.rows.length
  generalize place s.rows r.1 s.rows.length = p at *
  have e := putF_split r (s.rows.take p) (s.rows.drop p) (fun x hx => ?_) (fun x hx => ?_)
  · rw [List.take_append_drop] at e
    rw [e]; simp
  · obtain ⟨j, hj, rfl⟩ := List.getElem_of_mem hx
    rw [List.length_take] at hj
    rw [List.getElem_take]
    have hp : 0 < p := by omega
    have hb' := hb hp
    have e1 : s.rows.getD (p - 1) ([], []) = s.rows[p - 1]'(by omega) := by simp [List.getD, show p - 1 < s.rows.length by omega]
    rw [e1] at hb'
    by_cases hjp : j = p - 1
    · subst hjp; exact hb'
    · have := List.pairwise_iff_getElem.mp hst j (p - 1) (by omega) (by omega) (by omega)
      exact lt_false_trans this hb' |> fun h => h
  · rw [List.head?_drop] at hx
    have hpl : p < s.rows.length := by
      rcases Nat.lt_or_ge p s.rows.length with h | h
      · exact h
      · rw [List.getElem?_eq_none h] at hx; cases hx
    have := ha p (Nat.le_refl _) hpl
    rw [List.getElem?_eq_getElem hpl] at hx
    cases hx
    simpa [List.getD, hpl] using this
/- What holds of states of the document: no number where none belongs, no rows where none belong. -/
structure VS.fit (s : VS) : Prop where
  zero : s.kind = 1 → s.n = 0
  bare : s.kind = 2 ∨ s.kind = 3 → s.rows = []
  stand : s.kind = 6 ∨ Stand s.rows
  i64 : I64 s.n
theorem apply_same {s : VS} (h : s.fit) (c : MC) (r : MR) : apply1 s c r = apply2 s c r := by
  unfold apply1 apply2 applyBy
  rw [with_stand h.stand, with_stand (s := ⟨s.kind, s.n, []⟩) (Or.inr List.Pairwise.nil)]
theorem wrap_i64 (x : Int) : I64 (wrap64 x) := by unfold I64 wrap64; omega
theorem VS.fit.rwith {s : VS} (h : s.fit) (hk : s.kind ≠ 2 ∧ s.kind ≠ 3) (r : List UInt8 × List UInt8) : (s.rwith r).fit := by
  refine ⟨h.zero, fun e => ?_, ?_, h.i64⟩
  · exact absurd e (by simp [VS.rwith]; exact hk)
  · show s.kind = 6 ∨ Stand (putG s.kind r s.rows)
    by_cases h6 : s.kind = 6
    · exact Or.inl h6
    · refine Or.inr ?_
      unfold putG
      rw [if_neg h6]
      exact (h.stand.resolve_left h6).put r
theorem VS.fit.gone {s : VS} (h : s.fit) (key : List UInt8) : (s.gone key).fit := by
  refine ⟨h.zero, fun e => ?_, ?_, h.i64⟩
  · show s.rows.eraseIdx _ = []
    rw [h.bare e]; rfl
  · show s.kind = 6 ∨ Stand (s.rows.eraseIdx _)
    rcases h.stand with h | h
    · exact Or.inl h
    · exact Or.inr (h.erase _)
theorem op_kind {op : Int} (h : okOp op) : (op = 2 → (mfact op).kind = 1) ∧ (op = 3 → (mfact op).kind = 2) ∧ (op = 5 ∨ op = 6 → (mfact op).kind = 3) ∧ (op = 8 ∨ op = 11 ∨ op = 14 ∨ op = 16 → (mfact op).kind ≠ 1 ∧ (mfact op).kind ≠ 2 ∧ (mfact op).kind ≠ 3) := by
  rcases op_cases h with rfl | rfl | rfl | rfl | rfl | rfl | rfl | rfl | rfl | rfl | rfl | rfl | rfl | rfl | rfl | rfl | rfl <;> decide
theorem VS.fit.apply {s : VS} (h : s.fit) {c : MC} (hc : okOp c.op) (r : MR) : (apply2 s c r).fit := by
  unfold apply2 applyBy
  obtain ⟨k2, k3, k5, k8⟩ := op_kind hc
  split
  · exact h
  rename_i hk
  have hk' : (mfact c.op).kind = s.kind := by
    by_cases e : (mfact c.op).kind = s.kind
    · exact e
    · exact absurd (Or.inl e) hk
  rw [hk'] at k2 k3 k5 k8
  split
  · rename_i h2
    have e1 := k2 h2
    have hb : VS.fit ⟨s.kind, s.n, []⟩ := ⟨h.zero, fun e => rfl, Or.inr List.Pairwise.nil, h.i64⟩
    split
    · exact hb
    · exact hb.rwith (by show s.kind ≠ 2 ∧ s.kind ≠ 3; omega) _
  split
  · rename_i h3
    exact ⟨fun e => by exfalso; have e' : s.kind = 1 := e; rcases h3 with h3 | h3 <;> simp [h3] at k3 k5 <;> omega, h.bare, h.stand, wrap_i64 _⟩
  split
  · rename_i h6
    exact ⟨fun e => by exfalso; have e' : s.kind = 1 := e; have := k5 (Or.inr h6); omega, h.bare, h.stand, wrap_i64 _⟩
  split
  · rename_i h8
    exact h.rwith (k8 h8).2 _
  split
  · exact h.gone _
  · exact h.gone _
theorem apply_kind (s : VS) (c : MC) (r : MR) : (apply2 s c r).kind = s.kind := by
  unfold apply2 applyBy
  repeat' split
  all_goals rfl
theorem putF_len (r : List UInt8 × List UInt8) (l : List (List UInt8 × List UInt8)) : (putF r l).length = l.length + 1 := by
  induction l with
  | nil => rfl
  | cons x t ih =>
    unfold putF
    split
    · simp
    · simp [ih]
theorem rwith_len (s : VS) (r : List UInt8 × List UInt8) : (s.rwith r).rows.length = s.rows.length + 1 := by
  show (putG _ _ _).length = _
  unfold putG
  split
  · simp
  · exact putF_len _ _
theorem gone_len (s : VS) (key : List UInt8) : (s.gone key).rows.length ≤ s.rows.length := by
  show (s.rows.eraseIdx _).length ≤ _
  exact (List.eraseIdx_sublist _ _).length_le
theorem apply_len (s : VS) (c : MC) (r : MR) : (apply2 s c r).rows.length ≤ s.rows.length + 1 := by
  unfold apply2 applyBy
  repeat' split
  all_goals first | omega | simp | (rw [rwith_len]; simp) | (have := gone_len s c.a; omega) | (have := gone_len s r.text; omega)
/- A state that may be. -/
theorem stand_near : ∀ (l : List (List UInt8 × List UInt8)), (∀ i (h : i + 1 < l.length), Codec.lt (l[i + 1]'h).1 (l[i]'(by omega)).1 = false) → Stand l
  | [], _ => List.Pairwise.nil
  | [x], _ => List.pairwise_singleton _ _
  | x :: y :: t, h => by
    have ht : Stand (y :: t) := stand_near (y :: t) fun i hi => h (i + 1) (by simpa using hi)
    refine List.pairwise_cons.mpr ⟨fun z hz => ?_, ht⟩
    have h0 : Codec.lt y.1 x.1 = false := by simpa using h 0 (by simp)
    rcases List.mem_cons.mp hz with rfl | hz
    · exact h0
    · exact lt_false_trans h0 ((List.pairwise_cons.mp ht).1 z hz)
theorem VS.may.fit {s : VS} (h : s.may) : s.fit := by
  obtain ⟨h1, h2, h3⟩ := VS.may_rows h
  have hk := VS.may_kind h
  refine ⟨fun e => ?_, fun e => ?_, ?_, h.2⟩
  · unfold VS.numOk at h2
    rw [if_neg (by omega), if_neg (by omega)] at h2
    simpa using h2
  · unfold VS.numOk at h2
    rcases e with e | e
    · rw [if_pos e] at h2
      exact List.eq_nil_of_length_eq_zero (by simpa using h2)
    · rw [if_neg (by omega), if_pos e] at h2
      simp at h2
      exact h2.1
  · by_cases h6 : s.kind = 6
    · exact Or.inl h6
    refine Or.inr (stand_near _ fun i hi => ?_)
    have := h3 (i + 1) hi
    unfold VS.rowErr at this
    split at this
    · cases this
    split at this
    · cases this
    rename_i h0 hn
    have hko : s.keyOk (i + 1) = true := by
      cases hx : s.keyOk (i + 1)
      · exact absurd (Or.inr hx) hn
      · rfl
    unfold VS.keyOk VS.key at hko
    have g1 : s.rows.getD (i + 1) ([], []) = s.rows[i + 1]'hi := by simp [List.getD, hi]
    have g0 : s.rows.getD (i + 1 - 1) ([], []) = s.rows[i]'(by omega) := by simp [List.getD, show i < s.rows.length by omega]
    rw [g0, g1] at hko
    unfold VS.most at h1
    by_cases e1 : s.kind = 1
    · rw [if_pos e1] at h1; omega
    rw [if_neg e1] at hko
    by_cases e4 : s.kind = 4 ∨ s.kind = 5
    · rw [if_pos e4] at hko
      simp at hko
      exact Codec.lt_asym _ _ hko
    rw [if_neg e4] at hko
    by_cases e7 : s.kind = 7
    · rw [if_pos e7] at hko
      simpa using hko
    · have : s.kind = 2 ∨ s.kind = 3 := by omega
      unfold VS.numOk at h2
      rcases this with e | e
      · rw [if_pos e] at h2; simp at h2; rw [h2] at hi; simp at hi
      · rw [if_neg (by omega), if_pos e] at h2; simp at h2; rw [h2.1] at hi; simp at hi
end Go.Proofs.YteaiidcconggcaaDoor
