/- Plain mathematics of a key's parts: read byte by byte; a key read is its parts; parts read without an error have the bytes as their key. No program is named here. -/
import Derived.Test.YtphcbnbpbgmplabCKeyMath
namespace Codec

def go (out : List (List UInt8)) (part : List UInt8) : List UInt8 → List (List UInt8) × Nat
  | [] => if part.isEmpty then (out, 0) else ([], 1)
  | [c] => if c.toNat = 0 then ([], 1) else go out (part ++ [c]) []
  | c :: d :: r => if c.toNat = 0 then (if d.toNat = 255 then go out (part ++ [0]) r else if d.toNat = 1 then go (out ++ [part]) [] r else ([], 2)) else go out (part ++ [c]) (d :: r)

theorem go_nil (out : List (List UInt8)) : go out [] [] = (out, 0) := by rw [go]; rfl
theorem go_open (out : List (List UInt8)) (part : List UInt8) (h : part ≠ []) : go out part [] = ([], 1) := by
  rw [go]; cases part with
  | nil => exact absurd rfl h
  | cons c p => rfl
theorem go_byte (out : List (List UInt8)) (part r : List UInt8) (c : UInt8) (h : c.toNat ≠ 0) : go out part (c :: r) = go out (part ++ [c]) r := by
  cases r with
  | nil =>
    have e : go out part [c] = if c.toNat = 0 then ([], 1) else go out (part ++ [c]) [] := rfl
    rw [e, if_neg h]
  | cons d r =>
    have e : go out part (c :: d :: r) = if c.toNat = 0 then (if d.toNat = 255 then go out (part ++ [0]) r else if d.toNat = 1 then go (out ++ [part]) [] r else ([], 2)) else go out (part ++ [c]) (d :: r) := rfl
    rw [e, if_neg h]
theorem go_end (out : List (List UInt8)) (part : List UInt8) (c : UInt8) (h : c.toNat = 0) : go out part [c] = ([], 1) := by rw [go, if_pos h]
theorem go_zero (out : List (List UInt8)) (part r : List UInt8) (c d : UInt8) (h : c.toNat = 0) (hd : d.toNat = 255) : go out part (c :: d :: r) = go out (part ++ [0]) r := by rw [go, if_pos h, if_pos hd]
theorem go_part (out : List (List UInt8)) (part r : List UInt8) (c d : UInt8) (h : c.toNat = 0) (hd : d.toNat = 1) : go out part (c :: d :: r) = go (out ++ [part]) [] r := by rw [go, if_pos h, if_neg (by omega), if_pos hd]
theorem go_form (out : List (List UInt8)) (part r : List UInt8) (c d : UInt8) (h : c.toNat = 0) (hd : d.toNat ≠ 255) (hd1 : d.toNat ≠ 1) : go out part (c :: d :: r) = ([], 2) := by rw [go, if_pos h, if_neg hd, if_neg hd1]

/- A part's bytes, read. -/
theorem go_esc (out : List (List UInt8)) (part p r : List UInt8) : go out part (esc p ++ r) = go out (part ++ p) r := by
  induction p generalizing part with
  | nil => simp [esc]
  | cons c p ih =>
    have e : esc (c :: p) = (if c.toNat = 0 then [0, 255] else [c]) ++ esc p := rfl
    rw [e]
    by_cases hc : c.toNat = 0
    · rw [if_pos hc]
      have h0 : c = 0 := UInt8.toNat_inj.1 hc
      show go out part (0 :: 255 :: (esc p ++ r)) = _
      rw [go_zero _ _ _ _ _ rfl rfl, ih, h0]
      simp
    · rw [if_neg hc]
      show go out part (c :: (esc p ++ r)) = _
      rw [go_byte _ _ _ _ hc, ih]
      simp
theorem go_key (out ls : List (List UInt8)) (r : List UInt8) : go out [] (key ls ++ r) = go (out ++ ls) [] r := by
  induction ls generalizing out with
  | nil => simp [key]
  | cons p ls ih =>
    have e : key (p :: ls) ++ r = esc p ++ (0 :: 1 :: (key ls ++ r)) := by simp [key, encPart]
    rw [e, go_esc, go_part _ _ _ _ _ rfl rfl, ih]
    simp
theorem parts_key (ls : List (List UInt8)) : go [] [] (key ls) = (ls, 0) := by
  have := go_key [] ls []
  rw [List.append_nil] at this
  rw [this, List.nil_append, go_nil]

theorem esc_zero : esc [0] = [0, 255] := by decide

/- Read without an error: the bytes are the parts' key. -/
theorem go_one : ∀ (n : Nat) (l : List UInt8), l.length ≤ n → ∀ (out : List (List UInt8)) (part : List UInt8) (res : List (List UInt8)), go out part l = (res, 0) → key res = key out ++ esc part ++ l
  | n, [], _, out, part, res, h => by
    cases part with
    | nil => rw [go_nil] at h; injection h with h1 h2; subst h1; simp [esc]
    | cons c p => rw [go_open _ _ (by simp)] at h; injection h with h1 h2; exact absurd h2 (by decide)
  | 0, c :: r, hl, out, part, res, h => by simp at hl
  | n + 1, c :: r, hl, out, part, res, h => by
    by_cases hc : c.toNat = 0
    · have h0 : c = 0 := UInt8.toNat_inj.1 hc
      cases r with
      | nil => rw [go_end _ _ _ hc] at h; injection h with h1 h2; exact absurd h2 (by decide)
      | cons d r =>
        by_cases h255 : d.toNat = 255
        · rw [go_zero _ _ _ _ _ hc h255] at h
          have ih := go_one n r (by simp at hl; omega) _ _ _ h
          have hd : d = 255 := UInt8.toNat_inj.1 h255
          rw [ih, esc_append, esc_zero, h0, hd]
          simp
        · by_cases h1 : d.toNat = 1
          · rw [go_part _ _ _ _ _ hc h1] at h
            have ih := go_one n r (by simp at hl; omega) _ _ _ h
            have hd : d = 1 := UInt8.toNat_inj.1 h1
            rw [ih, key_append, h0, hd]
            simp [key, encPart, esc]
          · rw [go_form _ _ _ _ _ hc h255 h1] at h; injection h with h1 h2; exact absurd h2 (by decide)
    · rw [go_byte _ _ _ _ hc] at h
      have ih := go_one n r (by simpa using hl) _ _ _ h
      rw [ih, esc_append, esc_one, if_neg hc]
      simp
theorem key_parts (l : List UInt8) (res : List (List UInt8)) (h : go [] [] l = (res, 0)) : key res = l := by
  have := go_one l.length l (Nat.le_refl _) [] [] res h
  simpa [key, esc] using this

theorem go_err (n : Nat) : ∀ (l : List UInt8), l.length ≤ n → ∀ (out : List (List UInt8)) (part : List UInt8), (go out part l).2 ≠ 0 → (go out part l).1 = [] := by
  induction n with
  | zero =>
    intro l hl out part h
    have : l = [] := List.length_eq_zero_iff.1 (by omega)
    subst this
    cases part with
    | nil => rw [go_nil] at h; exact absurd rfl h
    | cons c p => rw [go_open _ _ (by simp)]
  | succ n ih =>
    intro l hl out part h
    cases l with
    | nil =>
      cases part with
      | nil => rw [go_nil] at h; exact absurd rfl h
      | cons c p => rw [go_open _ _ (by simp)]
    | cons c r =>
      by_cases hc : c.toNat = 0
      · cases r with
        | nil => rw [go_end _ _ _ hc]
        | cons d r =>
          have hr : r.length ≤ n := by simp at hl; omega
          by_cases h255 : d.toNat = 255
          · rw [go_zero _ _ _ _ _ hc h255] at h ⊢; exact ih r hr _ _ h
          · by_cases h1 : d.toNat = 1
            · rw [go_part _ _ _ _ _ hc h1] at h ⊢; exact ih r hr _ _ h
            · rw [go_form _ _ _ _ _ hc h255 h1]
      · rw [go_byte _ _ _ _ hc] at h ⊢
        exact ih r (by simpa using hl) _ _ h

end Codec
