/- Plain mathematics of a sector: its bytes, what is read of bytes, that both tell the same. No program is named here. -/
import Derived.Test.YtajcaglbbdbibaaDoorCPutsMath
import Derived.Test.YtajcaglbbdbibaaDoorKMath
namespace Codec

structure Sec where
  stamp : Nat
  mark : Nat
  data : List UInt8
def body (s : Sec) : List UInt8 := enc s.stamp ++ enc s.mark ++ encS s.data
def pad60 (l : List UInt8) : List UInt8 := l ++ List.replicate (60 - l.length) 0
def four (n : Nat) : List UInt8 := [UInt8.ofNat (n % 256), UInt8.ofNat (n / 256 % 256), UInt8.ofNat (n / 65536 % 256), UInt8.ofNat (n / 16777216 % 256)]
def sumOf (l : List UInt8) : List UInt8 := four (Crc.crc l)
def secText (s : Sec) : List UInt8 := sumOf (pad60 (body s)) ++ pad60 (body s)
structure Sec.Ok (s : Sec) : Prop where
  st : s.stamp ≤ 1099511627776
  mrk : s.mark ≤ 255
  dt : s.data.length ≤ 50

theorem blen_le_of {n k : Nat} (hn : n < 18446744073709551616) (h : n < 256 ^ k) : blen n ≤ k := by
  rcases Nat.lt_or_ge k (blen n) with h1 | h1
  · have := (left_iff n k hn).2 h1
    rw [Nat.div_eq_of_lt h] at this
    omega
  · exact h1
theorem enc_len_of {n k : Nat} (hn : n < 18446744073709551616) (h : n < 256 ^ k) : (enc n).length ≤ k + 1 := by
  rw [enc_length]
  have := blen_le_of hn h
  omega
theorem body_length (s : Sec) (h : s.Ok) : (body s).length ≤ 61 := by
  have h1 := h.st
  have h2 := h.mrk
  have h3 := h.dt
  have e1 := enc_len_of (n := s.stamp) (k := 6) (by omega) (by omega)
  have e2 := enc_len_of (n := s.mark) (k := 1) (by omega) (by omega)
  have e3 := enc_len_of (n := s.data.length) (k := 1) (by omega) (by omega)
  unfold body encS
  simp only [List.length_append]
  omega
theorem body_length44 (s : Sec) (h : s.Ok) (h44 : s.data.length ≤ 44) : (body s).length ≤ 55 := by
  have h1 := h.st
  have h2 := h.mrk
  have e1 := enc_len_of (n := s.stamp) (k := 6) (by omega) (by omega)
  have e2 := enc_len_of (n := s.mark) (k := 1) (by omega) (by omega)
  have e3 := enc_len_of (n := s.data.length) (k := 1) (by omega) (by omega)
  unfold body encS
  simp only [List.length_append]
  omega
theorem pad60_length (l : List UInt8) (h : l.length ≤ 60) : (pad60 l).length = 60 := by simp [pad60]; omega
theorem four_length (n : Nat) : (four n).length = 4 := rfl
theorem secText_length (s : Sec) (h : s.Ok) (h44 : s.data.length ≤ 44) : (secText s).length = 64 := by
  have := body_length44 s h h44
  unfold secText sumOf
  rw [List.length_append, four_length, pad60_length _ (by omega)]

/- What is read: the sector, the error's number. -/
def readNum (l : List UInt8) : Nat × St := takeN 1099511627776 (l, 0)
def readMark (l : List UInt8) : Nat × St := takeN 255 (readNum l).2
def readData (l : List UInt8) : List UInt8 × St := takeS 44 (readMark l).2
def behind (l : List UInt8) : Sec × Int :=
  if (readData l).2.2 ≠ 0 then (⟨0, 0, []⟩, (readData l).2.2)
  else if (readNum l).1 = 0 ∨ (readData l).2.1.any (fun c => c != 0) = true then (⟨0, 0, []⟩, 2)
  else (⟨(readNum l).1, (readMark l).1, (readData l).1⟩, 0)
def parse (l : List UInt8) : Sec × Int :=
  if l.length ≠ 64 then (⟨0, 0, []⟩, 1)
  else if l.take 4 ≠ sumOf (l.drop 4) then (⟨0, 0, []⟩, 5)
  else behind (l.drop 4)

theorem fail_keeps (c : Int) (s : St) (h : s.2 ≠ 0) : fail c s = s := by unfold fail; rw [if_neg (fun e => h e.1)]
theorem take_keeps (n : Nat) (s : St) (h : s.2 ≠ 0) : (take n s).2.2 ≠ 0 := by
  unfold take
  split
  · exact h
  · rw [fail_keeps 1 s h]; exact h
theorem size_keeps (s : St) (h : s.2 ≠ 0) : (size s).2.2 ≠ 0 := by
  have h1 := take_keeps 1 s h
  unfold size
  split
  · exact h1
  · split
    · rw [fail_keeps 2 _ h1]; exact h1
    · exact h1
theorem digits_keeps (s : St) (h : s.2 ≠ 0) : (digits s).2.2 ≠ 0 := take_keeps _ _ (size_keeps s h)
theorem takeU_keeps (s : St) (h : s.2 ≠ 0) : (takeU s).2.2 ≠ 0 := by
  have h1 := digits_keeps s h
  unfold takeU
  split
  · exact h1
  · split
    · rw [fail_keeps 2 _ h1]; exact h1
    · exact h1
theorem takeN_keeps (m : Int) (s : St) (h : s.2 ≠ 0) : (takeN m s).2.2 ≠ 0 := by
  have h1 := takeU_keeps s h
  unfold takeN
  split
  · exact h1
  · rw [fail_keeps 3 _ h1]; exact h1
theorem takeN_err (m : Int) (s : St) (h : (takeN m s).2.2 = 0) : s.2 = 0 := Classical.byContradiction fun e => takeN_keeps m s e h
theorem takeN_one (m : Int) (s : St) (h : (takeN m s).2.2 = 0) : s.1 = enc (takeN m s).1 ++ (takeN m s).2.1 ∧ (takeN m s).1 ≤ (max m 0).toNat := by
  have h0 := takeN_err m s h
  obtain ⟨l, e⟩ := s
  dsimp only at h0
  subst h0
  have hu := takeU_one l
  unfold takeN at *
  split at h
  · rename_i hle
    rw [if_pos hle]
    exact ⟨hu.2 h, hle⟩
  · rename_i hle
    exfalso
    by_cases e0 : (takeU (l, 0)).2.2 = 0
    · unfold fail at h
      rw [if_pos ⟨e0, by decide⟩] at h
      simp at h
    · rw [fail_keeps 3 _ e0] at h
      exact e0 h
theorem takeS_one (m : Int) (s : St) (h : (takeS m s).2.2 = 0) : s.1 = encS (takeS m s).1 ++ (takeS m s).2.1 ∧ (takeS m s).1.length ≤ (max m 0).toNat ∧ (takeN m s).2.2 = 0 := by
  have hN : (takeN m s).2.2 = 0 := Classical.byContradiction fun e => take_keeps _ _ e h
  obtain ⟨h1, h2⟩ := takeN_one m s hN
  unfold takeS at *
  unfold take at *
  split at h
  · rename_i hle
    rw [if_pos hle]
    refine ⟨?_, ?_, hN⟩
    · show s.1 = encS ((takeN m s).2.1.take (takeN m s).1) ++ (takeN m s).2.1.drop (takeN m s).1
      unfold encS
      rw [List.length_take, Nat.min_eq_left hle, List.append_assoc, List.take_append_drop]
      exact h1
    · show ((takeN m s).2.1.take (takeN m s).1).length ≤ _
      rw [List.length_take]
      omega
  · exfalso
    unfold fail at h
    rw [if_pos ⟨hN, by decide⟩] at h
    simp at h

/- What was read without an error are the sector's bytes, and what is left. -/
theorem behind_body (l : List UInt8) (h : (readData l).2.2 = 0) : l = body ⟨(readNum l).1, (readMark l).1, (readData l).1⟩ ++ (readData l).2.1 ∧ (readNum l).1 ≤ 1099511627776 ∧ (readMark l).1 ≤ 255 ∧ (readData l).1.length ≤ 44 := by
  rw [show readData l = takeS 44 (readMark l).2 from rfl] at h ⊢
  obtain ⟨h1, h2, h3⟩ := takeS_one 44 (readMark l).2 h
  have h4 := takeN_err 44 (readMark l).2 h3
  generalize takeS 44 (readMark l).2 = q at *
  rw [show readMark l = takeN 255 (readNum l).2 from rfl] at *
  obtain ⟨h5, h6⟩ := takeN_one 255 (readNum l).2 h4
  have h7 := takeN_err 255 (readNum l).2 h4
  generalize takeN 255 (readNum l).2 = p at *
  rw [show readNum l = takeN 1099511627776 (l, 0) from rfl] at *
  obtain ⟨h8, h9⟩ := takeN_one 1099511627776 (l, 0) h7
  generalize takeN 1099511627776 (l, 0) = o at *
  refine ⟨?_, by omega, by omega, by omega⟩
  unfold body
  rw [List.append_assoc, List.append_assoc, ← h1, ← h5]
  exact h8

theorem zeros_of_any (l : List UInt8) : l.any (fun c => c != 0) = false ↔ l = List.replicate l.length 0 := by
  constructor
  · intro h
    apply List.eq_replicate_of_mem
    intro b hb
    have := List.any_eq_false.1 h b hb
    simpa using this
  · intro h
    rw [h]
    simp

/- The two ways to say that what is left is full of 0: they are one. -/
theorem rest_iff (l : List UInt8) (hl : l.length = 60) (h : (readData l).2.2 = 0) : pad60 (body ⟨(readNum l).1, (readMark l).1, (readData l).1⟩) = l ↔ (readData l).2.1.any (fun c => c != 0) = false := by
  obtain ⟨h1, _⟩ := behind_body l h
  generalize body ⟨(readNum l).1, (readMark l).1, (readData l).1⟩ = b at *
  generalize (readData l).2.1 = r at *
  have hlen : b.length + r.length = 60 := by rw [h1, List.length_append] at hl; exact hl
  rw [zeros_of_any]
  unfold pad60
  have e : 60 - b.length = r.length := by omega
  rw [e]
  constructor
  · intro h2
    rw [h1] at h2
    exact (List.append_cancel_left h2).symm
  · intro h2
    rw [h1, ← h2]

/- There and back. -/
theorem takeN_enc (m : Int) (n : Nat) (rest : List UInt8) (hn : n < 18446744073709551616) (hm : n ≤ (max m 0).toNat) : takeN m (enc n ++ rest, 0) = (n, (rest, 0)) := by
  unfold takeN
  rw [takeU_enc n rest hn]
  dsimp only
  rw [if_pos hm]
theorem takeS_encS (m : Int) (s rest : List UInt8) (hs : s.length < 18446744073709551616) (hm : s.length ≤ (max m 0).toNat) : takeS m (encS s ++ rest, 0) = (s, (rest, 0)) := by
  unfold takeS
  have e : takeN m (encS s ++ rest, 0) = (s.length, (s ++ rest, 0)) := by
    unfold encS
    rw [List.append_assoc]
    exact takeN_enc m _ _ hs hm
  rw [e]
  simp [take]
theorem read_body (s : Sec) (h : s.Ok) (h44 : s.data.length ≤ 44) (rest : List UInt8) : readNum (body s ++ rest) = (s.stamp, (enc s.mark ++ (encS s.data ++ rest), 0)) ∧ readMark (body s ++ rest) = (s.mark, (encS s.data ++ rest, 0)) ∧ readData (body s ++ rest) = (s.data, (rest, 0)) := by
  have h1 := h.st
  have h2 := h.mrk
  have e1 : readNum (body s ++ rest) = (s.stamp, (enc s.mark ++ (encS s.data ++ rest), 0)) := by
    unfold readNum body
    rw [List.append_assoc, List.append_assoc]
    exact takeN_enc _ _ _ (by omega) (by omega)
  have e2 : readMark (body s ++ rest) = (s.mark, (encS s.data ++ rest, 0)) := by
    unfold readMark
    rw [e1]
    exact takeN_enc _ _ _ (by omega) (by omega)
  refine ⟨e1, e2, ?_⟩
  unfold readData
  rw [e2]
  exact takeS_encS _ _ _ (by omega) (by omega)
theorem parse_text (s : Sec) (h : s.Ok) (h44 : s.data.length ≤ 44) (h1 : 1 ≤ s.stamp) : parse (secText s) = (s, 0) := by
  have hlen := secText_length s h h44
  have e4 : (secText s).take 4 = sumOf (pad60 (body s)) := by unfold secText; exact List.take_left' rfl
  have e5 : (secText s).drop 4 = pad60 (body s) := by unfold secText; exact List.drop_left' rfl
  unfold parse
  rw [if_neg (by rw [hlen]; simp), e4, e5, if_neg (by simp)]
  obtain ⟨r1, r2, r3⟩ := read_body s h h44 (List.replicate (60 - (body s).length) 0)
  unfold behind pad60
  rw [r1, r2, r3]
  rw [if_neg (by simp), if_neg (by
    intro hc
    rcases hc with hc | hc
    · dsimp only at hc; omega
    · simp at hc)]
end Codec
