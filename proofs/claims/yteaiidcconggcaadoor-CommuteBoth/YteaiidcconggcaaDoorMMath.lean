/- Calls and answers: plain functions. -/
import Derived.Test.YteaiidcconggcaaDoorBundleC4
namespace Go.Proofs.YteaiidcconggcaaDoor
open Go.RowKit
set_option linter.unusedVariables false
set_option maxRecDepth 100000

structure MF where
  word : List UInt8
  kind : Int
  a : Bool
  b : Bool
  n : Bool
def mnone : MF := ⟨[], 0, false, false, false⟩
def mfacts : List MF := [mnone, ⟨[114, 101, 97, 100], 1, false, false, false⟩, ⟨[119, 114, 105, 116, 101], 1, true, false, false⟩, ⟨[97, 100, 100], 2, false, false, true⟩, ⟨[99, 111, 117, 110, 116], 2, false, false, false⟩,
  ⟨[99, 114, 101, 100, 105, 116], 3, false, false, true⟩, ⟨[100, 101, 98, 105, 116], 3, false, false, true⟩, ⟨[98, 97, 108, 97, 110, 99, 101], 3, false, false, false⟩, ⟨[105, 110, 115, 101, 114, 116], 4, true, false, false⟩, ⟨[114, 101, 109, 111, 118, 101], 4, true, false, false⟩, ⟨[104, 97, 115], 4, true, false, false⟩,
  ⟨[98, 105, 110, 100], 5, true, true, false⟩, ⟨[117, 110, 98, 105, 110, 100], 5, true, false, false⟩, ⟨[108, 111, 111, 107], 5, true, false, false⟩, ⟨[101, 110, 113], 6, true, false, false⟩, ⟨[100, 101, 113], 6, false, false, false⟩, ⟨[112, 117, 116], 7, true, false, false⟩, ⟨[116, 97, 107, 101], 7, false, false, false⟩]
def mfact (op : Int) : MF := if op < 0 ∨ 17 < op then mnone else mfacts.getD op.toNat mnone
def hasA (op : Int) : Bool := decide (op = 2) || (decide (8 ≤ op) && decide (op ≤ 14)) || decide (op = 16)
def hasB (op : Int) : Bool := decide (op = 11)
def hasN (op : Int) : Bool := decide (op = 3) || decide (op = 5) || decide (op = 6)
def okOp (op : Int) : Prop := 1 ≤ op ∧ op ≤ 17
instance (op : Int) : Decidable (okOp op) := inferInstanceAs (Decidable (_ ∧ _))
theorem op_cases {op : Int} (h : okOp op) : op = 1 ∨ op = 2 ∨ op = 3 ∨ op = 4 ∨ op = 5 ∨ op = 6 ∨ op = 7 ∨ op = 8 ∨ op = 9 ∨ op = 10 ∨ op = 11 ∨ op = 12 ∨ op = 13 ∨ op = 14 ∨ op = 15 ∨ op = 16 ∨ op = 17 := by unfold okOp at h; omega
theorem mfact_no {op : Int} (h : ¬ okOp op) : mfact op = mnone := by
  unfold mfact
  split
  · rfl
  · rename_i h1
    have : op = 0 := by unfold okOp at h; omega
    subst this; rfl
theorem mfact_kind {op : Int} (h : okOp op) : (mfact op).kind ≠ 0 := by
  rcases op_cases h with rfl | rfl | rfl | rfl | rfl | rfl | rfl | rfl | rfl | rfl | rfl | rfl | rfl | rfl | rfl | rfl | rfl <;> decide
theorem mfact_has {op : Int} (h : okOp op) : (mfact op).a = hasA op ∧ (mfact op).b = hasB op ∧ (mfact op).n = hasN op := by
  rcases op_cases h with rfl | rfl | rfl | rfl | rfl | rfl | rfl | rfl | rfl | rfl | rfl | rfl | rfl | rfl | rfl | rfl | rfl <;> decide
theorem mfact_bounds (op : Int) : 0 ≤ (mfact op).kind ∧ (mfact op).kind ≤ 7 ∧ (mfact op).word.length ≤ 7 := by
  by_cases h : okOp op
  · rcases op_cases h with rfl | rfl | rfl | rfl | rfl | rfl | rfl | rfl | rfl | rfl | rfl | rfl | rfl | rfl | rfl | rfl | rfl <;> decide
  · rw [mfact_no h]; decide

/- A call, an answer. -/
structure MC where
  op : Int
  a : List UInt8
  b : List UInt8
  n : Int
structure MR where
  code : Int
  text : List UInt8
  n : Int
def I64 (x : Int) : Prop := -9223372036854775808 ≤ x ∧ x ≤ 9223372036854775807
def MC.check (c : MC) : Int :=
  if ¬ okOp c.op then 6
  else if (c.a ≠ [] ∧ hasA c.op = false) ∨ (c.b ≠ [] ∧ hasB c.op = false) ∨ (c.n ≠ 0 ∧ hasN c.op = false) then 2
  else if 24 < c.a.length ∨ 24 < c.b.length then 3
  else if (c.op = 5 ∨ c.op = 6) ∧ (c.n < 1 ∨ 1048576 < c.n) then 4
  else 0
def MR.check (r : MR) : Int :=
  if r.code ≠ 1 ∧ r.code ≠ 2 then 6
  else if 24 < r.text.length then 3
  else if r.text ≠ [] ∧ r.n ≠ 0 then 2
  else 0
def MC.text (c : MC) : List UInt8 := Codec.enc (max c.op 0).toNat ++ Codec.encS c.a ++ Codec.encS c.b ++ Codec.enc (Codec.fold c.n)
def MR.bytes (r : MR) : List UInt8 := Codec.enc (max r.code 0).toNat ++ Codec.encS r.text ++ Codec.enc (Codec.fold r.n)

/- Bytes as a call, as an answer. -/
def rcO (s : Codec.St) : Nat × Codec.St := Codec.takeN 17 s
def rcA (s : Codec.St) : List UInt8 × Codec.St := Codec.takeS 24 (rcO s).2
def rcB (s : Codec.St) : List UInt8 × Codec.St := Codec.takeS 24 (rcA s).2
def rcI (s : Codec.St) : Int × Codec.St := Codec.takeI (rcB s).2
def rcV (s : Codec.St) : MC := ⟨((rcO s).1 : Nat), (rcA s).1, (rcB s).1, (rcI s).1⟩
def rcS (s : Codec.St) : Codec.St := Codec.fail (rcV s).check (rcI s).2
def rcC (s : Codec.St) : MC := if (rcS s).2 ≠ 0 then ⟨0, [], [], 0⟩ else rcV s
def rrO (s : Codec.St) : Nat × Codec.St := Codec.takeN 2 s
def rrT (s : Codec.St) : List UInt8 × Codec.St := Codec.takeS 24 (rrO s).2
def rrI (s : Codec.St) : Int × Codec.St := Codec.takeI (rrT s).2
def rrV (s : Codec.St) : MR := ⟨((rrO s).1 : Nat), (rrT s).1, (rrI s).1⟩
def rrS (s : Codec.St) : Codec.St := Codec.fail (rrV s).check (rrI s).2
def rrR (s : Codec.St) : MR := if (rrS s).2 ≠ 0 then ⟨0, [], 0⟩ else rrV s
theorem rc_inv {s : Codec.St} (h : Inv s) : Inv (rcO s).2 ∧ Inv (rcA s).2 ∧ Inv (rcB s).2 ∧ Inv (rcI s).2 ∧ Inv (rcS s) :=
  ⟨h.takeN 17, (h.takeN 17).takeS 24, ((h.takeN 17).takeS 24).takeS 24, (((h.takeN 17).takeS 24).takeS 24).takeI, (((h.takeN 17).takeS 24).takeS 24).takeI.fail _⟩
theorem rr_inv {s : Codec.St} (h : Inv s) : Inv (rrO s).2 ∧ Inv (rrT s).2 ∧ Inv (rrI s).2 ∧ Inv (rrS s) :=
  ⟨h.takeN 2, (h.takeN 2).takeS 24, ((h.takeN 2).takeS 24).takeI, ((h.takeN 2).takeS 24).takeI.fail _⟩
theorem takeI_length (s : Codec.St) : (Codec.takeI s).2.1.length ≤ s.1.length := Codec.takeU_length s
theorem rc_len (s : Codec.St) : (rcO s).2.1.length ≤ s.1.length ∧ (rcA s).2.1.length ≤ s.1.length ∧ (rcB s).2.1.length ≤ s.1.length ∧ (rcI s).2.1.length ≤ s.1.length := by
  have h1 : (rcO s).2.1.length ≤ s.1.length := by unfold rcO; exact takeN_length 17 s
  have h2 : (rcA s).2.1.length ≤ (rcO s).2.1.length := by rw [rcA]; exact takeS_length 24 _
  have h3 : (rcB s).2.1.length ≤ (rcA s).2.1.length := by rw [rcB]; exact takeS_length 24 _
  have h4 : (rcI s).2.1.length ≤ (rcB s).2.1.length := by rw [rcI]; exact takeI_length _
  omega
theorem rr_len (s : Codec.St) : (rrO s).2.1.length ≤ s.1.length ∧ (rrT s).2.1.length ≤ s.1.length ∧ (rrI s).2.1.length ≤ s.1.length := by
  have h1 : (rrO s).2.1.length ≤ s.1.length := by unfold rrO; exact takeN_length 2 s
  have h2 : (rrT s).2.1.length ≤ (rrO s).2.1.length := by rw [rrT]; exact takeS_length 24 _
  have h4 : (rrI s).2.1.length ≤ (rrT s).2.1.length := by rw [rrI]; exact takeI_length _
  omega
theorem takeS_most (m : Nat) (k : Int) (hk : (m : Int) = k) (s : Codec.St) : (Codec.takeS k s).1.length ≤ m := by
  subst hk
  unfold Codec.takeS
  exact Nat.le_trans (Codec.take_length _ _).1 (takeN_most m s)
theorem takeN_most' (m : Nat) (k : Int) (hk : (m : Int) = k) (s : Codec.St) : (Codec.takeN k s).1 ≤ m := by
  subst hk
  exact takeN_most m s
theorem rc_most (s : Codec.St) : (rcO s).1 ≤ 17 ∧ (rcA s).1.length ≤ 24 ∧ (rcB s).1.length ≤ 24 ∧ I64 (rcI s).1 := by
  unfold rcO rcA rcB rcI
  exact ⟨takeN_most' 17 17 rfl s, takeS_most 24 24 rfl _, takeS_most 24 24 rfl _, takeI_bounds _⟩
theorem rr_most (s : Codec.St) : (rrO s).1 ≤ 2 ∧ (rrT s).1.length ≤ 24 ∧ I64 (rrI s).1 := by
  unfold rrO rrT rrI
  exact ⟨takeN_most' 2 2 rfl s, takeS_most 24 24 rfl _, takeI_bounds _⟩

/- There and back. -/
theorem rc_text {c : MC} (h : c.check = 0) (hn : I64 c.n) (rest : List UInt8) : rcV (c.text ++ rest, 0) = c ∧ (rcI (c.text ++ rest, 0)).2 = (rest, 0) := by
  obtain ⟨op, a, b, n⟩ := c
  have hop : okOp op := by
    unfold MC.check at h
    by_cases e : okOp op
    · exact e
    · rw [if_pos e] at h; exact absurd h (by decide)
  have hl : a.length ≤ 24 ∧ b.length ≤ 24 := by
    unfold MC.check at h
    dsimp only at h
    rw [if_neg (by simpa using hop)] at h
    split at h
    · exact absurd h (by decide)
    · split at h
      · exact absurd h (by decide)
      · omega
  have h17 : (max op 0).toNat ≤ 17 := by unfold okOp at hop; omega
  have e1 := takeN_enc' 17 (max op 0).toNat (Codec.encS a ++ (Codec.encS b ++ (Codec.enc (Codec.fold n) ++ rest))) h17 (by decide)
  have e2 := takeS_enc' 24 a (Codec.encS b ++ (Codec.enc (Codec.fold n) ++ rest)) hl.1 (by decide)
  have e3 := takeS_enc' 24 b (Codec.enc (Codec.fold n) ++ rest) hl.2 (by decide)
  have e4 := Codec.takeI_enc n rest hn.1 hn.2
  have c17 : ((17 : Nat) : Int) = 17 := rfl
  have c24 : ((24 : Nat) : Int) = 24 := rfl
  rw [c17] at e1
  rw [c24] at e2 e3
  have t1 : rcO (MC.text ⟨op, a, b, n⟩ ++ rest, 0) = ((max op 0).toNat, (Codec.encS a ++ (Codec.encS b ++ (Codec.enc (Codec.fold n) ++ rest)), 0)) := by
    unfold rcO MC.text
    simp only [List.append_assoc]
    exact e1
  have t2 : rcA (MC.text ⟨op, a, b, n⟩ ++ rest, 0) = (a, (Codec.encS b ++ (Codec.enc (Codec.fold n) ++ rest), 0)) := by unfold rcA; rw [t1]; exact e2
  have t3 : rcB (MC.text ⟨op, a, b, n⟩ ++ rest, 0) = (b, (Codec.enc (Codec.fold n) ++ rest, 0)) := by unfold rcB; rw [t2]; exact e3
  have t4 : rcI (MC.text ⟨op, a, b, n⟩ ++ rest, 0) = (n, (rest, 0)) := by unfold rcI; rw [t3]; exact e4
  refine ⟨?_, by rw [t4]⟩
  unfold rcV
  rw [t1, t2, t3, t4]
  have : (((max op 0).toNat : Nat) : Int) = op := by unfold okOp at hop; omega
  dsimp only
  rw [this]
theorem rr_bytes {r : MR} (h : r.check = 0) (hn : I64 r.n) (rest : List UInt8) : rrV (r.bytes ++ rest, 0) = r ∧ (rrI (r.bytes ++ rest, 0)).2 = (rest, 0) := by
  obtain ⟨code, a, n⟩ := r
  unfold MR.check at h
  dsimp only at h hn
  have hop : code = 1 ∨ code = 2 := by
    by_cases e : code ≠ 1 ∧ code ≠ 2
    · rw [if_pos e] at h; exact absurd h (by decide)
    · omega
  have hl : a.length ≤ 24 := by
    rw [if_neg (by omega)] at h
    split at h
    · exact absurd h (by decide)
    · omega
  have h17 : (max code 0).toNat ≤ 2 := by omega
  have e1 := takeN_enc' 2 (max code 0).toNat (Codec.encS a ++ (Codec.enc (Codec.fold n) ++ rest)) h17 (by decide)
  have e2 := takeS_enc' 24 a (Codec.enc (Codec.fold n) ++ rest) hl (by decide)
  have e4 := Codec.takeI_enc n rest hn.1 hn.2
  have c17 : ((2 : Nat) : Int) = 2 := rfl
  have c24 : ((24 : Nat) : Int) = 24 := rfl
  rw [c17] at e1
  rw [c24] at e2
  have t1 : rrO (MR.bytes ⟨code, a, n⟩ ++ rest, 0) = ((max code 0).toNat, (Codec.encS a ++ (Codec.enc (Codec.fold n) ++ rest), 0)) := by
    unfold rrO MR.bytes
    simp only [List.append_assoc]
    exact e1
  have t2 : rrT (MR.bytes ⟨code, a, n⟩ ++ rest, 0) = (a, (Codec.enc (Codec.fold n) ++ rest, 0)) := by unfold rrT; rw [t1]; exact e2
  have t4 : rrI (MR.bytes ⟨code, a, n⟩ ++ rest, 0) = (n, (rest, 0)) := by unfold rrI; rw [t2]; exact e4
  refine ⟨?_, by rw [t4]⟩
  unfold rrV
  rw [t1, t2, t4]
  have : (((max code 0).toNat : Nat) : Int) = code := by omega
  dsimp only
  rw [this]
end Go.Proofs.YteaiidcconggcaaDoor
