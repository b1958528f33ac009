/- Plain mathematics: what a log's writes leave on a device. -/
import Derived.Test.YtajcaglbbdbibaaDoorWAppend
import Derived.Test.YtajcaglbbdbibaaDoorWScan
namespace Go.Proofs.YtajcaglbbdbibaaDoor
open Go.RowKit
set_option linter.unusedVariables false
set_option maxRecDepth 100000

def wlist (fr ln : Nat) (s : List UInt8) (x : Nat) : Nat → Nat → List (Nat × List UInt8)
  | 0, _ => []
  | n + 1, j => (place fr ln (x + j), Codec.secText (Codec.sec s x j)) :: wlist fr ln s x n (j + 1)
theorem wlist_length (fr ln : Nat) (s : List UInt8) (x : Nat) : ∀ n j, (wlist fr ln s x n j).length = n
  | 0, _ => rfl
  | n + 1, j => by simp [wlist, wlist_length fr ln s x n (j + 1)]
theorem mem_wlist {fr ln : Nat} {s : List UInt8} {x : Nat} {k : Nat} {c : List UInt8} : ∀ {n j}, (k, c) ∈ wlist fr ln s x n j → ∃ i, j ≤ i ∧ i < j + n ∧ k = place fr ln (x + i) ∧ c = Codec.secText (Codec.sec s x i)
  | 0, _, h => by cases h
  | n + 1, j, h => by
    rcases List.mem_cons.1 h with h | h
    · cases h
      exact ⟨j, Nat.le_refl _, by omega, rfl, rfl⟩
    · obtain ⟨i, h1, h2, h3⟩ := mem_wlist h
      exact ⟨i, by omega, by omega, h3⟩
theorem wlist_mem (fr ln : Nat) (s : List UInt8) (x : Nat) : ∀ n j i, j ≤ i → i < j + n → (place fr ln (x + i), Codec.secText (Codec.sec s x i)) ∈ wlist fr ln s x n j
  | 0, _, _, h1, h2 => by omega
  | n + 1, j, i, h1, h2 => by
    by_cases e : i = j
    · subst e; exact List.mem_cons_self
    · exact List.mem_cons_of_mem _ (wlist_mem fr ln s x n (j + 1) i (by omega) (by omega))
theorem place_inj {fr ln a b : Nat} (h : place fr ln a = place fr ln b) (h1 : a ≤ b) (h2 : b < a + ln) : a = b := by
  unfold place at h
  have hm : a % ln = b % ln := by omega
  have e1 := Nat.div_add_mod a ln
  have e2 := Nat.div_add_mod b ln
  rcases Nat.lt_or_ge (a / ln) (b / ln) with h3 | h3
  · have : ln * (a / ln + 1) ≤ ln * (b / ln) := Nat.mul_le_mul_left _ h3
    rw [Nat.mul_add, Nat.mul_one] at this
    omega
  · have h4 : a / ln = b / ln := Nat.le_antisymm (Nat.div_le_div_right h1) h3
    rw [h4, hm] at e1
    omega
theorem place_lt (fr ln a m : Nat) (h0 : 0 < ln) (h : fr + ln ≤ m) : place fr ln a < m := by
  unfold place
  have := Nat.mod_lt a h0
  omega
theorem w_whole (T : List UInt8) (h : T.length = 64) : whole T = T := by
  rw [whole_long T (by omega), List.take_of_length_le (by omega)]
theorem w_write (d : Dev) (i : Nat) (T : List UInt8) (h1 : i < d.L.length) (h2 : T.length = 64) (ho : ¬ d.out) : d.write (i : Int) T = { d with left := if d.armed then d.left - 1 else d.left, calls := d.calls + 1, W := d.W ++ [(i, T)] } ∧ d.writeE (i : Int) T = 0 := by
  have hn : ¬ (d.no (i : Int) ∨ 64 < T.length) := by
    intro hx
    rcases hx with hx | hx
    · unfold Dev.no at hx; omega
    · omega
  unfold Dev.write Dev.writeE Dev.begin
  rw [if_neg hn, if_neg hn, if_neg ho, if_neg ho, if_neg ho, w_whole T h2]
  exact ⟨rfl, rfl⟩
theorem w_write_out (d : Dev) (i : Nat) (T : List UInt8) (h1 : i < d.L.length) (h2 : T.length = 64) (ho : d.out) : d.write (i : Int) T = { d with down := true } ∧ d.writeE (i : Int) T = 16 := by
  have hn : ¬ (d.no (i : Int) ∨ 64 < T.length) := by
    intro hx
    rcases hx with hx | hx
    · unfold Dev.no at hx; omega
    · omega
  unfold Dev.write Dev.writeE Dev.begin
  rw [if_neg hn, if_neg hn, if_pos ho, if_pos ho, if_pos ho]
  exact ⟨rfl, rfl⟩
theorem sec_len (s : List UInt8) (x j : Nat) (h : x + j ≤ 1099511627776) : (Codec.secText (Codec.sec s x j)).length = 64 := Codec.secText_length _ (Codec.sec_ok s x j h) (Codec.piece_length s j)

theorem puts_on (fr ln : Nat) (s : List UInt8) (x : Nat) (hl : 0 < ln) : ∀ n j (d : Dev), d.down = false → d.armed = false → fr + ln ≤ d.L.length → (0 < n → x + j + n ≤ 1099511627777) → Dev.puts fr ln s x n j d = ({ d with W := d.W ++ wlist fr ln s x n j, calls := d.calls + n }, 0)
  | 0, j, d, h1, h2, h3, h4 => by simp [Dev.puts, wlist]
  | n + 1, j, d, h1, h2, h3, h4 => by
    have ho : ¬ d.out := by unfold Dev.out; rw [h1, h2]; simp
    obtain ⟨e1, e2⟩ := w_write d (place fr ln (x + j)) _ (place_lt fr ln _ _ hl h3) (sec_len s x j (by have := h4 (by omega); omega)) ho
    rw [Dev.puts, if_neg (by rw [e2]; simp), e1, puts_on fr ln s x hl n (j + 1) { d with left := if d.armed then d.left - 1 else d.left, calls := d.calls + 1, W := d.W ++ [(place fr ln (x + j), Codec.secText (Codec.sec s x j))] } h1 h2 h3 (fun _ => by have := h4 (by omega); omega)]
    simp [wlist, h2, Nat.add_assoc, Nat.add_comm 1 n]
theorem puts_armed (fr ln : Nat) (s : List UInt8) (x : Nat) (hl : 0 < ln) : ∀ n j (d : Dev), d.down = false → d.armed = true → fr + ln ≤ d.L.length → (0 < n → x + j + n ≤ 1099511627777) →
    Dev.puts fr ln s x n j d = if n ≤ d.left then ({ d with W := d.W ++ wlist fr ln s x n j, calls := d.calls + n, left := d.left - n }, 0) else ({ d with W := d.W ++ wlist fr ln s x d.left j, calls := d.calls + d.left, left := 0, down := true }, 16)
  | 0, j, d, h1, h2, h3, h4 => by simp [Dev.puts, wlist]
  | n + 1, j, d, h1, h2, h3, h4 => by
    by_cases hz : d.left = 0
    · have ho : d.out := by unfold Dev.out; rw [h2]; exact Or.inr ⟨rfl, hz⟩
      obtain ⟨e1, e2⟩ := w_write_out d (place fr ln (x + j)) _ (place_lt fr ln _ _ hl h3) (sec_len s x j (by have := h4 (by omega); omega)) ho
      rw [Dev.puts, if_pos (by rw [e2]; simp), e1, e2, if_neg (by omega), hz]
      obtain ⟨L, W, dn, ar, lf, cl⟩ := d
      dsimp only at hz
      subst hz
      simp [wlist]
    · have ho : ¬ d.out := by unfold Dev.out; rw [h1, h2]; simp [hz]
      obtain ⟨e1, e2⟩ := w_write d (place fr ln (x + j)) _ (place_lt fr ln _ _ hl h3) (sec_len s x j (by have := h4 (by omega); omega)) ho
      rw [Dev.puts, if_neg (by rw [e2]; simp), e1, puts_armed fr ln s x hl n (j + 1) { d with left := if d.armed then d.left - 1 else d.left, calls := d.calls + 1, W := d.W ++ [(place fr ln (x + j), Codec.secText (Codec.sec s x j))] } h1 h2 h3 (fun _ => by have := h4 (by omega); omega)]
      obtain ⟨l', hl'⟩ : ∃ l', d.left = l' + 1 := ⟨d.left - 1, by omega⟩
      simp only [h2, if_true, hl', Nat.add_sub_cancel, wlist]
      by_cases hle : n ≤ l'
      · rw [if_pos hle, if_pos (by omega)]
        simp [Nat.add_assoc, Nat.add_comm 1 n]
      · rw [if_neg hle, if_neg (by omega)]
        simp [Nat.add_assoc, Nat.add_comm 1 l']

/- What may stand in a sector. -/
def can (d : Dev) (k : Nat) (c : List UInt8) : Prop := d.L[k]? = some c ∨ (k, c) ∈ d.W
theorem cur_can (d : Dev) (k : Nat) (h : k < d.L.length) : can d k (d.cur k) := by
  unfold Dev.cur
  cases e : d.W.reverse.find? (fun x => x.1 == k) with
  | none => left; simp [List.getD, List.getElem?_eq_getElem h]
  | some x =>
    right
    have h1 := List.find?_some e
    have h2 := List.mem_of_find?_eq_some e
    have : x.1 = k := by simpa using h1
    subst this
    simpa using h2
theorem lay_can : ∀ (ws : List (Nat × List UInt8)) (l : List (List UInt8)) (k : Nat) (c : List UInt8), (lay l ws)[k]? = some c → l[k]? = some c ∨ (k, c) ∈ ws
  | [], l, k, c, h => Or.inl h
  | x :: r, l, k, c, h => by
    rcases lay_can r (l.set x.1 x.2) k c h with h1 | h1
    · rw [List.getElem?_set] at h1
      split at h1
      · rename_i e
        subst e
        split at h1
        · cases h1; right; exact List.mem_cons_self
        · cases h1
      · exact Or.inl h1
    · exact Or.inr (List.mem_cons_of_mem _ h1)
theorem chosen_mem {keep : List Int} {ws : List (Nat × List UInt8)} {x : Nat × List UInt8} (h : x ∈ chosen keep ws) : x ∈ ws := by
  unfold chosen at h
  obtain ⟨y, hy, rfl⟩ := List.mem_map.1 h
  have := (List.mem_filter.1 hy).1
  exact (List.mem_zipIdx' this).2 ▸ List.getElem_mem _
theorem crash_can (d : Dev) (keep : List Int) (k : Nat) (c : List UInt8) (h : can (d.crash keep) k c) : can d k c := by
  rcases h with h | h
  · rcases lay_can _ _ _ _ h with h1 | h1
    · exact Or.inl h1
    · exact Or.inr (chosen_mem h1)
  · cases h
theorem flush_can (d : Dev) (ho : ¬ d.out) (k : Nat) (c : List UInt8) (h : can d.flush k c) : can d k c := by
  unfold Dev.flush at h
  rw [if_neg ho] at h
  rcases h with h | h
  · exact lay_can _ _ _ _ h
  · cases h
theorem new_can (n k : Nat) (c : List UInt8) (h : can (Dev.new n) k c) : c = whole [] := by
  rcases h with h | h
  · simp only [Dev.new] at h
    exact (List.mem_replicate.1 (List.mem_of_getElem? h)).2
  · cases h
theorem w_parse_blank : (Codec.parse (whole [])).2 = 5 := by
  unfold Codec.parse
  rw [if_neg (by rw [whole_length]; decide), if_pos (by decide +kernel)]
def vw (c : List UInt8) : Option Codec.Sec := if (Codec.parse c).2 = 0 then some (Codec.parse c).1 else none
theorem view_vw (d : Dev) (fr ln a : Nat) : view d fr ln a = vw (d.cur (place fr ln a)) := rfl
theorem vw_blank : vw (whole []) = none := by unfold vw; rw [if_neg (by rw [w_parse_blank]; decide)]
theorem vw_sec (s : List UInt8) (x j : Nat) (h : x + j ≤ 1099511627776) (h1 : 1 ≤ x + j) : vw (Codec.secText (Codec.sec s x j)) = some (Codec.sec s x j) := by
  unfold vw
  rw [Codec.parse_text _ (Codec.sec_ok s x j h) (Codec.piece_length s j) h1]
  rfl
/- Nothing but blanks: nothing is found. -/
theorem scan_blank (d : Dev) (fr ln x n : Nat) (hl : 0 < ln) (hfl : fr + ln ≤ d.L.length) (h : ∀ k c, can d k c → c = whole []) : Codec.scan (view d fr ln) n x false [] x = ([], x) := by
  apply Codec.scan_none
  rw [view_vw, h _ _ (cur_can d _ (place_lt fr ln x _ hl hfl)), vw_blank]

/- A device that may be: its sectors are whole. -/
structure Fine (d : Dev) : Prop where
  ok : d.Ok
  sz : ∀ k c, can d k c → c.length = 64
variable {d : Dev}
theorem Fine.cur (h : Fine d) (k : Nat) (hk : k < d.L.length) : (d.cur k).length ≤ 1000 := by
  have := h.sz k _ (cur_can d k hk)
  omega
theorem Fine.new (n : Nat) (h : 0 < n) : Fine (Dev.new n) := ⟨⟨fun x hx => absurd hx List.not_mem_nil, by simpa [Dev.new] using h⟩, fun k c hc => by rw [new_can n k c hc, whole_length]⟩
theorem Fine.crash (h : Fine d) (keep : List Int) : Fine (d.crash keep) := ⟨⟨fun x hx => absurd hx List.not_mem_nil, by show 0 < (lay _ _).length; rw [lay_length]; exact h.ok.some⟩, fun k c hc => h.sz k c (crash_can d keep k c hc)⟩
theorem Fine.flush (h : Fine d) (ho : ¬ d.out) : Fine d.flush := by
  refine ⟨⟨fun x hx => ?_, ?_⟩, fun k c hc => h.sz k c (flush_can d ho k c hc)⟩
  · unfold Dev.flush at hx
    rw [if_neg ho] at hx
    cases hx
  · unfold Dev.flush
    rw [if_neg ho]
    show 0 < (lay _ _).length
    rw [lay_length]; exact h.ok.some
theorem Fine.writes (h : Fine d) (l : List (Nat × List UInt8)) (hl : ∀ x ∈ l, x.1 < d.L.length ∧ x.2.length = 64) (d' : Dev) (e1 : d'.L = d.L) (e2 : d'.W = d.W ++ l) : Fine d' := by
  refine ⟨⟨fun x hx => ?_, by rw [e1]; exact h.ok.some⟩, fun k c hc => ?_⟩
  · rw [e1]
    rw [e2] at hx
    rcases List.mem_append.1 hx with hx | hx
    · exact h.ok.has x hx
    · exact (hl x hx).1
  · unfold can at hc
    rw [e1, e2] at hc
    rcases hc with hc | hc
    · exact h.sz k c (Or.inl hc)
    · rcases List.mem_append.1 hc with hc | hc
      · exact h.sz k c (Or.inr hc)
      · exact (hl _ hc).2
theorem wlist_fine (fr ln : Nat) (s : List UInt8) (x n j m : Nat) (hl : 0 < ln) (h : fr + ln ≤ m) (h4 : 0 < n → x + j + n ≤ 1099511627777) : ∀ y ∈ wlist fr ln s x n j, y.1 < m ∧ y.2.length = 64 := by
  rintro ⟨k, c⟩ hy
  obtain ⟨i, h1, h2, rfl, rfl⟩ := mem_wlist hy
  exact ⟨place_lt fr ln _ _ hl h, sec_len s x i (by have := h4 (by omega); omega)⟩
end Go.Proofs.YtajcaglbbdbibaaDoor
