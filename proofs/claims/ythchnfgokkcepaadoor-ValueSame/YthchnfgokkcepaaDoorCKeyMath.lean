/- Plain functions of keys: a part with its noughts marked and its end; a key of parts. No program is named here. -/
namespace Codec

def esc (p : List UInt8) : List UInt8 := p.flatMap fun c => if c.toNat = 0 then [0, 255] else [c]
def encPart (p : List UInt8) : List UInt8 := esc p ++ [0, 1]
def key (l : List (List UInt8)) : List UInt8 := l.flatMap encPart

theorem esc_append (p q : List UInt8) : esc (p ++ q) = esc p ++ esc q := by simp [esc]
theorem esc_one (c : UInt8) : esc [c] = if c.toNat = 0 then [0, 255] else [c] := by simp [esc]
theorem esc_snoc (p : List UInt8) (k : Nat) (h : k < p.length) : esc (p.take (k + 1)) = esc (p.take k) ++ (if (p[k]).toNat = 0 then [0, 255] else [p[k]]) := by
  rw [List.take_succ_eq_append_getElem h, esc_append, esc_one]
theorem esc_length (p : List UInt8) : (esc p).length ≤ 2 * p.length := by
  induction p with
  | nil => simp [esc]
  | cons c p ih =>
    have e : esc (c :: p) = (if c.toNat = 0 then [0, 255] else [c]) ++ esc p := rfl
    rw [e, List.length_append, List.length_cons]
    split <;> simp <;> omega
theorem key_append (a b : List (List UInt8)) : key (a ++ b) = key a ++ key b := by simp [key]
theorem key_snoc (l : List (List UInt8)) (k : Nat) (h : k < l.length) : key (l.take (k + 1)) = key (l.take k) ++ encPart l[k] := by
  rw [List.take_succ_eq_append_getElem h, key_append]
  simp [key]

end Codec
