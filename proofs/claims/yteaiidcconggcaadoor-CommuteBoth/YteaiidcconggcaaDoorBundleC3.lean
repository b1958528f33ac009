/- Texts that this proof needs, one behind the other: CKeyMath, COrderMath. -/
import Derived.WalkKit
/- Plain functions of keys: a part with its noughts marked and its end; a key of parts. No program is named here. -/
namespace Codec

def esc (p : List UInt8) : List UInt8 := p.flatMap fun c => if c.toNat = 0 then [0, 255] else [c]
def encPart (p : List UInt8) : List UInt8 := esc p ++ [0, 1]
def key (l : List (List UInt8)) : List UInt8 := l.flatMap encPart

theorem esc_append (p q : List UInt8) : esc (p ++ q) = esc p ++ esc q := by simp [esc]
theorem esc_one (c : UInt8) : esc [c] = if c.toNat = 0 then [0, 255] else [c] := by simp [esc]
theorem esc_snoc (p : List UInt8) (k : Nat) (h : k < p.length) : esc (p.take (k + 1)) = esc (p.take k) ++ (if (p[k]).toNat = 0 then [0, 255] else [p[k]]) := by
  rw [List.take_succ_eq_append_getElem h, esc_append, esc_one]
theorem esc_length (p : List UInt8) : (esc p).length ≤ 2 * p.length := by
  induction p with
  | nil => simp [esc]
  | cons c p ih =>
    have e : esc (c :: p) = (if c.toNat = 0 then [0, 255] else [c]) ++ esc p := rfl
    rw [e, List.length_append, List.length_cons]
    split <;> simp <;> omega
theorem key_append (a b : List (List UInt8)) : key (a ++ b) = key a ++ key b := by simp [key]
theorem key_snoc (l : List (List UInt8)) (k : Nat) (h : k < l.length) : key (l.take (k + 1)) = key (l.take k) ++ encPart l[k] := by
  rw [List.take_succ_eq_append_getElem h, key_append]
  simp [key]

end Codec
/- Plain mathematics: keys stand, byte by byte, as their parts. No program is named here but the model's order of bytes. -/
namespace Codec
open Go

def lt (a b : List UInt8) : Bool := Op.bytesLess a b

theorem lt_any_nil (a : List UInt8) : lt a [] = false := by cases a <;> rfl
theorem lt_nil_cons (d : UInt8) (b : List UInt8) : lt [] (d :: b) = true := rfl
theorem lt_cons (c d : UInt8) (a b : List UInt8) : lt (c :: a) (d :: b) = (decide (c < d) || (c == d && lt a b)) := rfl

theorem u8_lt (c d : UInt8) : c < d ↔ c.toNat < d.toNat := UInt8.lt_iff_toNat_lt
theorem u8_tri (c d : UInt8) : c < d ∨ c = d ∨ d < c := by
  rcases Nat.lt_trichotomy c.toNat d.toNat with h | h | h
  · exact Or.inl ((u8_lt c d).2 h)
  · exact Or.inr (Or.inl (UInt8.toNat_inj.1 h))
  · exact Or.inr (Or.inr ((u8_lt d c).2 h))
theorem u8_irr (c : UInt8) : ¬ c < c := fun h => by have := (u8_lt c c).1 h; omega
theorem u8_asym (c d : UInt8) (h : c < d) : ¬ d < c := fun h2 => by have := (u8_lt c d).1 h; have := (u8_lt d c).1 h2; omega
theorem u8_ne (c d : UInt8) (h : c < d) : (c == d) = false := by
  rw [beq_eq_false_iff_ne]; intro e; subst e; exact u8_irr _ h
theorem u8_ne' (c d : UInt8) (h : c < d) : (d == c) = false := by
  rw [beq_eq_false_iff_ne]; intro e; subst e; exact u8_irr _ h

theorem lt_less (c d : UInt8) (a b : List UInt8) (h : c < d) : lt (c :: a) (d :: b) = true := by rw [lt_cons]; simp [h]
theorem lt_more (c d : UInt8) (a b : List UInt8) (h : d < c) : lt (c :: a) (d :: b) = false := by
  rw [lt_cons, u8_ne' d c h]; simp [u8_asym d c h]
theorem lt_same (c : UInt8) (a b : List UInt8) : lt (c :: a) (c :: b) = lt a b := by
  rw [lt_cons]; simp
theorem lt_append (s p q : List UInt8) : lt (s ++ p) (s ++ q) = lt p q := by
  induction s with
  | nil => rfl
  | cons c s ih => rw [List.cons_append, List.cons_append, lt_same, ih]
theorem lt_irr (a : List UInt8) : lt a a = false := by
  have := lt_append a [] []
  rw [List.append_nil] at this
  rw [this]; rfl
theorem lt_asym (a b : List UInt8) (h : lt a b = true) : lt b a = false := by
  induction a generalizing b with
  | nil => exact lt_any_nil b
  | cons c a ih =>
    cases b with
    | nil => rw [lt_any_nil] at h; exact absurd h (by decide)
    | cons d b =>
      rcases u8_tri c d with h1 | h1 | h1
      · exact lt_more d c b a h1
      · subst h1
        rw [lt_same] at h ⊢
        exact ih b h
      · rw [lt_more c d a b h1] at h; exact absurd h (by decide)
theorem lt_total (a b : List UInt8) (h1 : lt a b = false) (h2 : lt b a = false) : a = b := by
  induction a generalizing b with
  | nil =>
    cases b with
    | nil => rfl
    | cons d b => rw [lt_nil_cons] at h1; exact absurd h1 (by decide)
  | cons c a ih =>
    cases b with
    | nil => rw [lt_nil_cons] at h2; exact absurd h2 (by decide)
    | cons d b =>
      rcases u8_tri c d with h | h | h
      · rw [lt_less c d a b h] at h1; exact absurd h1 (by decide)
      · subst h
        rw [lt_same] at h1 h2
        rw [ih b h1 h2]
      · rw [lt_less d c b a h] at h2; exact absurd h2 (by decide)

theorem esc_cons (c : UInt8) (p : List UInt8) : esc (c :: p) = (if c.toNat = 0 then [0, 255] else [c]) ++ esc p := rfl
theorem encPart_cons (c : UInt8) (p q : List UInt8) : encPart (c :: p) ++ q = (if c.toNat = 0 then [0, 255] else [c]) ++ (encPart p ++ q) := by
  unfold encPart; rw [esc_cons]; simp
theorem encPart_nil (q : List UInt8) : encPart [] ++ q = 0 :: 1 :: q := rfl

theorem part_lt (x y p q : List UInt8) (h : lt x y = true) : lt (encPart x ++ p) (encPart y ++ q) = true := by
  induction x generalizing y with
  | nil =>
    cases y with
    | nil => rw [lt_any_nil] at h; exact absurd h (by decide)
    | cons d y =>
      rw [encPart_nil, encPart_cons]
      by_cases hd : d.toNat = 0
      · rw [if_pos hd]
        show lt (0 :: 1 :: p) (0 :: 255 :: (encPart y ++ q)) = true
        rw [lt_same]
        exact lt_less _ _ _ _ (by decide)
      · rw [if_neg hd]
        exact lt_less _ _ _ _ ((u8_lt _ _).2 (by show 0 < d.toNat; omega))
  | cons c x ih =>
    cases y with
    | nil => rw [lt_any_nil] at h; exact absurd h (by decide)
    | cons d y =>
      rw [encPart_cons, encPart_cons]
      rcases u8_tri c d with h1 | h1 | h1
      · have h2 := (u8_lt c d).1 h1
        by_cases hc : c.toNat = 0
        · rw [if_pos hc, if_neg (by omega)]
          exact lt_less _ _ _ _ ((u8_lt _ _).2 (by show 0 < d.toNat; omega))
        · rw [if_neg hc, if_neg (by omega)]
          exact lt_less _ _ _ _ h1
      · subst h1
        rw [lt_same] at h
        rw [lt_append]
        exact ih y h
      · rw [lt_more c d x y h1] at h; exact absurd h (by decide)

/- Do the parts of one stand ahead of another one's? -/
def less : List (List UInt8) → List (List UInt8) → Bool
  | [], b => !b.isEmpty
  | _ :: _, [] => false
  | x :: a, y :: b => if lt y x then false else if lt x y then true else less a b

theorem key_cons (x : List UInt8) (a : List (List UInt8)) : key (x :: a) = encPart x ++ key a := rfl

theorem key_less (a b : List (List UInt8)) : lt (key a) (key b) = less a b := by
  induction a generalizing b with
  | nil =>
    cases b with
    | nil => rfl
    | cons y b =>
      rw [key_cons]
      show lt [] (encPart y ++ key b) = true
      cases y with
      | nil => rfl
      | cons d y =>
        rw [encPart_cons]
        by_cases hd : d.toNat = 0
        · rw [if_pos hd]; rfl
        · rw [if_neg hd]; rfl
  | cons x a ih =>
    cases b with
    | nil => exact lt_any_nil _
    | cons y b =>
      rw [key_cons, key_cons]
      show _ = (if lt y x then false else if lt x y then true else less a b)
      by_cases h1 : lt y x = true
      · rw [if_pos h1]
        exact lt_asym _ _ (part_lt y x (key b) (key a) h1)
      · rw [if_neg h1]
        by_cases h2 : lt x y = true
        · rw [if_pos h2]
          exact part_lt x y (key a) (key b) h2
        · rw [if_neg h2]
          have e := lt_total x y (by simpa using h2) (by simpa using h1)
          rw [e, lt_append, ih]

theorem key_eq (a b : List (List UInt8)) : (key a == key b) = (!less a b && !less b a) := by
  rw [← key_less, ← key_less]
  by_cases h : key a = key b
  · rw [h, lt_irr]; simp
  · have h0 : (key a == key b) = false := by rw [beq_eq_false_iff_ne]; exact h
    rw [h0]
    cases h1 : lt (key a) (key b) with
    | true => rfl
    | false =>
      cases h2 : lt (key b) (key a) with
      | true => rfl
      | false => exact absurd (lt_total _ _ h1 h2) h

/- Less from a place on. -/
def lessAt (a b : List (List UInt8)) (k : Nat) : Bool := less (a.drop k) (b.drop k)
theorem lessAt_end (a b : List (List UInt8)) (k : Nat) (h : k = a.length) : lessAt a b k = decide (k < b.length) := by
  unfold lessAt
  rw [List.drop_eq_nil_of_le (by omega)]
  by_cases hk : k < b.length
  · rw [List.drop_eq_getElem_cons hk]; simp [less, hk]
  · rw [List.drop_eq_nil_of_le (by omega)]; simp [less, hk]
theorem lessAt_short (a b : List (List UInt8)) (k : Nat) (h : k < a.length) (hb : b.length ≤ k) : lessAt a b k = false := by
  unfold lessAt
  rw [List.drop_eq_getElem_cons h, List.drop_eq_nil_of_le hb]; rfl
theorem lessAt_step (a b : List (List UInt8)) (k : Nat) (h : k < a.length) (hb : k < b.length) : lessAt a b k = (if lt b[k] a[k] then false else if lt a[k] b[k] then true else lessAt a b (k + 1)) := by
  unfold lessAt
  rw [List.drop_eq_getElem_cons h, List.drop_eq_getElem_cons hb]; rfl

end Codec
