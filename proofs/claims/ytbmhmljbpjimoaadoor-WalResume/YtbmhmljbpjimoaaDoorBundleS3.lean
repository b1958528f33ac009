/- Texts that this proof needs, one behind the other: SMath, SShelf, SCalls, SText, SParse. -/
import Derived.Test.YtbmhmljbpjimoaaDoorBundleC1
import Derived.Test.YtbmhmljbpjimoaaDoorBundleK2
import Derived.Shelf.Strings.Repeat
import Derived.Shelf.Strings.Trim
import Derived.Test.YtbmhmljbpjimoaaDoorProg
import Derived.Laws.Rows
import Derived.Deep.RegionHeld3
/- Plain mathematics of a sector: its bytes, what is read of bytes, that both tell the same. No program is named here. -/
namespace Codec

structure Sec where
  stamp : Nat
  mark : Nat
  data : List UInt8
def body (s : Sec) : List UInt8 := enc s.stamp ++ enc s.mark ++ encS s.data
def pad60 (l : List UInt8) : List UInt8 := l ++ List.replicate (60 - l.length) 0
def four (n : Nat) : List UInt8 := [UInt8.ofNat (n % 256), UInt8.ofNat (n / 256 % 256), UInt8.ofNat (n / 65536 % 256), UInt8.ofNat (n / 16777216 % 256)]
def sumOf (l : List UInt8) : List UInt8 := four (Crc.crc l)
def secText (s : Sec) : List UInt8 := sumOf (pad60 (body s)) ++ pad60 (body s)
structure Sec.Ok (s : Sec) : Prop where
  st : s.stamp ≤ 1099511627776
  mrk : s.mark ≤ 255
  dt : s.data.length ≤ 50

theorem blen_le_of {n k : Nat} (hn : n < 18446744073709551616) (h : n < 256 ^ k) : blen n ≤ k := by
  rcases Nat.lt_or_ge k (blen n) with h1 | h1
  · have := (left_iff n k hn).2 h1
    rw [Nat.div_eq_of_lt h] at this
    omega
  · exact h1
theorem enc_len_of {n k : Nat} (hn : n < 18446744073709551616) (h : n < 256 ^ k) : (enc n).length ≤ k + 1 := by
  rw [enc_length]
  have := blen_le_of hn h
  omega
theorem body_length (s : Sec) (h : s.Ok) : (body s).length ≤ 61 := by
  have h1 := h.st
  have h2 := h.mrk
  have h3 := h.dt
  have e1 := enc_len_of (n := s.stamp) (k := 6) (by omega) (by omega)
  have e2 := enc_len_of (n := s.mark) (k := 1) (by omega) (by omega)
  have e3 := enc_len_of (n := s.data.length) (k := 1) (by omega) (by omega)
  unfold body encS
  simp only [List.length_append]
  omega
theorem body_length44 (s : Sec) (h : s.Ok) (h44 : s.data.length ≤ 44) : (body s).length ≤ 55 := by
  have h1 := h.st
  have h2 := h.mrk
  have e1 := enc_len_of (n := s.stamp) (k := 6) (by omega) (by omega)
  have e2 := enc_len_of (n := s.mark) (k := 1) (by omega) (by omega)
  have e3 := enc_len_of (n := s.data.length) (k := 1) (by omega) (by omega)
  unfold body encS
  simp only [List.length_append]
  omega
theorem pad60_length (l : List UInt8) (h : l.length ≤ 60) : (pad60 l).length = 60 := by simp [pad60]; omega
theorem four_length (n : Nat) : (four n).length = 4 := rfl
theorem secText_length (s : Sec) (h : s.Ok) (h44 : s.data.length ≤ 44) : (secText s).length = 64 := by
  have := body_length44 s h h44
  unfold secText sumOf
  rw [List.length_append, four_length, pad60_length _ (by omega)]

/- What is read: the sector, the error's number. -/
def readNum (l : List UInt8) : Nat × St := takeN 1099511627776 (l, 0)
def readMark (l : List UInt8) : Nat × St := takeN 255 (readNum l).2
def readData (l : List UInt8) : List UInt8 × St := takeS 44 (readMark l).2
def behind (l : List UInt8) : Sec × Int :=
  if (readData l).2.2 ≠ 0 then (⟨0, 0, []⟩, (readData l).2.2)
  else if (readNum l).1 = 0 ∨ (readData l).2.1.any (fun c => c != 0) = true then (⟨0, 0, []⟩, 2)
  else (⟨(readNum l).1, (readMark l).1, (readData l).1⟩, 0)
def parse (l : List UInt8) : Sec × Int :=
  if l.length ≠ 64 then (⟨0, 0, []⟩, 1)
  else if l.take 4 ≠ sumOf (l.drop 4) then (⟨0, 0, []⟩, 5)
  else behind (l.drop 4)

theorem fail_keeps (c : Int) (s : St) (h : s.2 ≠ 0) : fail c s = s := by unfold fail; rw [if_neg (fun e => h e.1)]
theorem take_keeps (n : Nat) (s : St) (h : s.2 ≠ 0) : (take n s).2.2 ≠ 0 := by
  unfold take
  split
  · exact h
  · rw [fail_keeps 1 s h]; exact h
theorem size_keeps (s : St) (h : s.2 ≠ 0) : (size s).2.2 ≠ 0 := by
  have h1 := take_keeps 1 s h
  unfold size
  split
  · exact h1
  · split
    · rw [fail_keeps 2 _ h1]; exact h1
    · exact h1
theorem digits_keeps (s : St) (h : s.2 ≠ 0) : (digits s).2.2 ≠ 0 := take_keeps _ _ (size_keeps s h)
theorem takeU_keeps (s : St) (h : s.2 ≠ 0) : (takeU s).2.2 ≠ 0 := by
  have h1 := digits_keeps s h
  unfold takeU
  split
  · exact h1
  · split
    · rw [fail_keeps 2 _ h1]; exact h1
    · exact h1
theorem takeN_keeps (m : Int) (s : St) (h : s.2 ≠ 0) : (takeN m s).2.2 ≠ 0 := by
  have h1 := takeU_keeps s h
  unfold takeN
  split
  · exact h1
  · rw [fail_keeps 3 _ h1]; exact h1
theorem takeN_err (m : Int) (s : St) (h : (takeN m s).2.2 = 0) : s.2 = 0 := Classical.byContradiction fun e => takeN_keeps m s e h
theorem takeN_one (m : Int) (s : St) (h : (takeN m s).2.2 = 0) : s.1 = enc (takeN m s).1 ++ (takeN m s).2.1 ∧ (takeN m s).1 ≤ (max m 0).toNat := by
  have h0 := takeN_err m s h
  obtain ⟨l, e⟩ := s
  dsimp only at h0
  subst h0
  have hu := takeU_one l
  unfold takeN at *
  split at h
  · rename_i hle
    rw [if_pos hle]
    exact ⟨hu.2 h, hle⟩
  · rename_i hle
    exfalso
    by_cases e0 : (takeU (l, 0)).2.2 = 0
    · unfold fail at h
      rw [if_pos ⟨e0, by decide⟩] at h
      simp at h
    · rw [fail_keeps 3 _ e0] at h
      exact e0 h
theorem takeS_one (m : Int) (s : St) (h : (takeS m s).2.2 = 0) : s.1 = encS (takeS m s).1 ++ (takeS m s).2.1 ∧ (takeS m s).1.length ≤ (max m 0).toNat ∧ (takeN m s).2.2 = 0 := by
  have hN : (takeN m s).2.2 = 0 := Classical.byContradiction fun e => take_keeps _ _ e h
  obtain ⟨h1, h2⟩ := takeN_one m s hN
  unfold takeS at *
  unfold take at *
  split at h
  · rename_i hle
    rw [if_pos hle]
    refine ⟨?_, ?_, hN⟩
    · show s.1 = encS ((takeN m s).2.1.take (takeN m s).1) ++ (takeN m s).2.1.drop (takeN m s).1
      unfold encS
      rw [List.length_take, Nat.min_eq_left hle, List.append_assoc, List.take_append_drop]
      exact h1
    · show ((takeN m s).2.1.take (takeN m s).1).length ≤ _
      rw [List.length_take]
      omega
  · exfalso
    unfold fail at h
    rw [if_pos ⟨hN, by decide⟩] at h
    simp at h

/- What was read without an error are the sector's bytes, and what is left. -/
theorem behind_body (l : List UInt8) (h : (readData l).2.2 = 0) : l = body ⟨(readNum l).1, (readMark l).1, (readData l).1⟩ ++ (readData l).2.1 ∧ (readNum l).1 ≤ 1099511627776 ∧ (readMark l).1 ≤ 255 ∧ (readData l).1.length ≤ 44 := by
  rw [show readData l = takeS 44 (readMark l).2 from rfl] at h ⊢
  obtain ⟨h1, h2, h3⟩ := takeS_one 44 (readMark l).2 h
  have h4 := takeN_err 44 (readMark l).2 h3
  generalize takeS 44 (readMark l).2 = q at *
  rw [show readMark l = takeN 255 (readNum l).2 from rfl] at *
  obtain ⟨h5, h6⟩ := takeN_one 255 (readNum l).2 h4
  have h7 := takeN_err 255 (readNum l).2 h4
  generalize takeN 255 (readNum l).2 = p at *
  rw [show readNum l = takeN 1099511627776 (l, 0) from rfl] at *
  obtain ⟨h8, h9⟩ := takeN_one 1099511627776 (l, 0) h7
  generalize takeN 1099511627776 (l, 0) = o at *
  refine ⟨?_, by omega, by omega, by omega⟩
  unfold body
  rw [List.append_assoc, List.append_assoc, ← h1, ← h5]
  exact h8

theorem zeros_of_any (l : List UInt8) : l.any (fun c => c != 0) = false ↔ l = List.replicate l.length 0 := by
  constructor
  · intro h
    apply List.eq_replicate_of_mem
    intro b hb
    have := List.any_eq_false.1 h b hb
    simpa using this
  · intro h
    rw [h]
    simp

/- The two ways to say that what is left is full of 0: they are one. -/
theorem rest_iff (l : List UInt8) (hl : l.length = 60) (h : (readData l).2.2 = 0) : pad60 (body ⟨(readNum l).1, (readMark l).1, (readData l).1⟩) = l ↔ (readData l).2.1.any (fun c => c != 0) = false := by
  obtain ⟨h1, _⟩ := behind_body l h
  generalize body ⟨(readNum l).1, (readMark l).1, (readData l).1⟩ = b at *
  generalize (readData l).2.1 = r at *
  have hlen : b.length + r.length = 60 := by rw [h1, List.length_append] at hl; exact hl
  rw [zeros_of_any]
  unfold pad60
  have e : 60 - b.length = r.length := by omega
  rw [e]
  constructor
  · intro h2
    rw [h1] at h2
    exact (List.append_cancel_left h2).symm
  · intro h2
    rw [h1, ← h2]

/- There and back. -/
theorem takeN_enc (m : Int) (n : Nat) (rest : List UInt8) (hn : n < 18446744073709551616) (hm : n ≤ (max m 0).toNat) : takeN m (enc n ++ rest, 0) = (n, (rest, 0)) := by
  unfold takeN
  rw [takeU_enc n rest hn]
  dsimp only
  rw [if_pos hm]
theorem takeS_encS (m : Int) (s rest : List UInt8) (hs : s.length < 18446744073709551616) (hm : s.length ≤ (max m 0).toNat) : takeS m (encS s ++ rest, 0) = (s, (rest, 0)) := by
  unfold takeS
  have e : takeN m (encS s ++ rest, 0) = (s.length, (s ++ rest, 0)) := by
    unfold encS
    rw [List.append_assoc]
    exact takeN_enc m _ _ hs hm
  rw [e]
  simp [take]
theorem read_body (s : Sec) (h : s.Ok) (h44 : s.data.length ≤ 44) (rest : List UInt8) : readNum (body s ++ rest) = (s.stamp, (enc s.mark ++ (encS s.data ++ rest), 0)) ∧ readMark (body s ++ rest) = (s.mark, (encS s.data ++ rest, 0)) ∧ readData (body s ++ rest) = (s.data, (rest, 0)) := by
  have h1 := h.st
  have h2 := h.mrk
  have e1 : readNum (body s ++ rest) = (s.stamp, (enc s.mark ++ (encS s.data ++ rest), 0)) := by
    unfold readNum body
    rw [List.append_assoc, List.append_assoc]
    exact takeN_enc _ _ _ (by omega) (by omega)
  have e2 : readMark (body s ++ rest) = (s.mark, (encS s.data ++ rest, 0)) := by
    unfold readMark
    rw [e1]
    exact takeN_enc _ _ _ (by omega) (by omega)
  refine ⟨e1, e2, ?_⟩
  unfold readData
  rw [e2]
  exact takeS_encS _ _ _ (by omega) (by omega)
theorem parse_text (s : Sec) (h : s.Ok) (h44 : s.data.length ≤ 44) (h1 : 1 ≤ s.stamp) : parse (secText s) = (s, 0) := by
  have hlen := secText_length s h h44
  have e4 : (secText s).take 4 = sumOf (pad60 (body s)) := by unfold secText; exact List.take_left' rfl
  have e5 : (secText s).drop 4 = pad60 (body s) := by unfold secText; exact List.drop_left' rfl
  unfold parse
  rw [if_neg (by rw [hlen]; simp), e4, e5, if_neg (by simp)]
  obtain ⟨r1, r2, r3⟩ := read_body s h h44 (List.replicate (60 - (body s).length) 0)
  unfold behind pad60
  rw [r1, r2, r3]
  rw [if_neg (by simp), if_neg (by
    intro hc
    rcases hc with hc | hc
    · dsimp only at hc; omega
    · simp at hc)]
end Codec
/- Contracts of Go's library, laid at this program by the kit's own command. -/
namespace Go.Proofs
open Go.Shelf
def Tryd.lays160_ren : Go.Shelf.Ren := ⟨fun | 160 => 50 | 232 => 64 | 231 => 63 | 227 => 65 | 234 => 67 | 233 => 66 | 236 => 69 | 235 => 68 | 228 => 78 | 271 => 81 | 151 => 80 | 197 => 79 | 120 => 87 | 152 => 86 | 260 => 85 | 137 => 89 | 119 => 90 | 224 => 91 | 225 => 92 | 217 => 93 | 266 => 94 | n => n, fun | 9 => 9 | 4 => 4 | 3 => 3 | 5 => 5 | 117 => 119 | 116 => 118 | 0 => 0 | 124 => 122 | 21 => 21 | 105 => 132 | 46 => 94 | 119 => 138 | 139 => 141 | 138 => 140 | n => n, fun | 3 => 0 | 4 => 1 | n => n⟩
theorem Tryd.lays160 : Go.Proofs.Lays.n160 Tryd.prog Tryd.lays160_ren := {
  mixed := by kernel_rfl
  f119 := Tryd.func90.trans (congrArg some (by kernel_rfl))
  f120 := Tryd.func87.trans (congrArg some (by kernel_rfl))
  f137 := Tryd.func89.trans (congrArg some (by kernel_rfl))
  f151 := Tryd.func80.trans (congrArg some (by kernel_rfl))
  f152 := Tryd.func86.trans (congrArg some (by kernel_rfl))
  f160 := Tryd.func50.trans (congrArg some (by kernel_rfl))
  f197 := Tryd.func79.trans (congrArg some (by kernel_rfl))
  f217 := Tryd.func93.trans (congrArg some (by kernel_rfl))
  f224 := Tryd.func91.trans (congrArg some (by kernel_rfl))
  f225 := Tryd.func92.trans (congrArg some (by kernel_rfl))
  f227 := Tryd.func65.trans (congrArg some (by kernel_rfl))
  f228 := Tryd.func78.trans (congrArg some (by kernel_rfl))
  f231 := Tryd.func63.trans (congrArg some (by kernel_rfl))
  f232 := Tryd.func64.trans (congrArg some (by kernel_rfl))
  f233 := Tryd.func66.trans (congrArg some (by kernel_rfl))
  f234 := Tryd.func67.trans (congrArg some (by kernel_rfl))
  f235 := Tryd.func68.trans (congrArg some (by kernel_rfl))
  f236 := Tryd.func69.trans (congrArg some (by kernel_rfl))
  f260 := Tryd.func85.trans (congrArg some (by kernel_rfl))
  f266 := Tryd.func94.trans (congrArg some (by kernel_rfl))
  f271 := Tryd.func81.trans (congrArg some (by kernel_rfl))
  t0 := Tryd.underlying0
  a0 := Tryd.isAgg0
  z0 := Tryd.sizeOf0
  v0 := Tryd.zeroValue0
  t3 := Tryd.underlying3
  a3 := Tryd.isAgg3
  z3 := Tryd.sizeOf3
  v3 := Tryd.zeroValue3
  t4 := Tryd.underlying4
  a4 := Tryd.isAgg4
  z4 := Tryd.sizeOf4
  v4 := Tryd.zeroValue4
  t5 := Tryd.underlying5
  a5 := Tryd.isAgg5
  z5 := Tryd.sizeOf5
  v5 := Tryd.zeroValue5
  t9 := Tryd.underlying9
  a9 := Tryd.isAgg9
  z9 := Tryd.sizeOf9
  v9 := Tryd.zeroValue9
  t21 := Tryd.underlying21
  a21 := Tryd.isAgg21
  z21 := Tryd.sizeOf21
  v21 := Tryd.zeroValue21
  t46 := Tryd.underlying94
  a46 := Tryd.isAgg94
  z46 := Tryd.sizeOf94
  v46 := Tryd.zeroValue94
  t105 := Tryd.underlying132
  a105 := Tryd.isAgg132
  z105 := Tryd.sizeOf132
  v105 := Tryd.zeroValue132
  t116 := Tryd.underlying118
  a116 := Tryd.isAgg118
  z116 := Tryd.sizeOf118
  t117 := Tryd.underlying119
  a117 := Tryd.isAgg119
  z117 := Tryd.sizeOf119
  v117 := Tryd.zeroValue119
  t119 := Tryd.underlying138
  a119 := Tryd.isAgg138
  z119 := Tryd.sizeOf138
  t124 := Tryd.underlying122
  a124 := Tryd.isAgg122
  z124 := Tryd.sizeOf122
  v124 := Tryd.zeroValue122
  t138 := Tryd.underlying140
  a138 := Tryd.isAgg140
  z138 := Tryd.sizeOf140
  v138 := Tryd.zeroValue140
  t139 := Tryd.underlying141
  a139 := Tryd.isAgg141
  z139 := Tryd.sizeOf141
  v139 := Tryd.zeroValue141
  g3 := by kernel_rfl
  g4 := by kernel_rfl }
open Go.RowKit in
theorem Tryd.strings_Trim_one (s : ByteArray) (c : UInt8) (hc : c.toNat < 128) (w : World) (hs : s.size ≤ 9223372036854775807) :
    Calls Tryd.prog 50 #[.string s, .string ⟨#[c]⟩] w fun e w' => e = .returned (.string ⟨(Lib.trimB s.data.toList c).toArray⟩) ∧ (w' = w ∨ w' = w.drew) := Any.strings_Trim_one Tryd.lays160 s c hc w hs
def Tryd.lays212_ren : Go.Shelf.Ren := ⟨fun | 212 => 51 | 263 => 70 | 264 => 71 | n => n, fun | 46 => 94 | 51 => 88 | 146 => 123 | 53 => 112 | 148 => 125 | n => n, fun | n => n⟩
theorem Tryd.lays212 : Go.Proofs.Lays.n212 Tryd.prog Tryd.lays212_ren := {
  mixed := by kernel_rfl
  f212 := Tryd.func51.trans (congrArg some (by kernel_rfl))
  f263 := Tryd.func70.trans (congrArg some (by kernel_rfl))
  f264 := Tryd.func71.trans (congrArg some (by kernel_rfl))
  t46 := Tryd.underlying94
  a46 := Tryd.isAgg94
  z46 := Tryd.sizeOf94
  v46 := Tryd.zeroValue94
  t51 := Tryd.underlying88
  a51 := Tryd.isAgg88
  z51 := Tryd.sizeOf88
  v51 := Tryd.zeroValue88
  t53 := Tryd.underlying112
  a53 := Tryd.isAgg112
  z53 := Tryd.sizeOf112
  v53 := Tryd.zeroValue112
  t146 := Tryd.underlying123
  a146 := Tryd.isAgg123
  z146 := Tryd.sizeOf123
  v146 := Tryd.zeroValue123
  t148 := Tryd.underlying125
  a148 := Tryd.isAgg125
  z148 := Tryd.sizeOf125
  v148 := Tryd.zeroValue125 }
open Go.RowKit Go.Lib in
theorem Tryd.bits_Mul (x y : Nat) (hx : x < 18446744073709551616) (hy : y < 18446744073709551616) (w : World) :
    Calls Tryd.prog 51 #[.int .u64 x, .int .u64 y] w fun e w' => e = .returned (.tuple #[.int .u64 ((x * y / 18446744073709551616 : Nat) : Int), .int .u64 ((x * y % 18446744073709551616 : Nat) : Int)]) ∧ w' = w := Any.bits_Mul Tryd.lays212 x y hx hy w
def Tryd.lays105_ren : Go.Shelf.Ren := ⟨fun | 105 => 52 | 212 => 51 | 99 => 72 | 165 => 73 | 166 => 26 | 170 => 74 | 169 => 27 | 263 => 70 | 264 => 71 | 206 => 82 | 240 => 40 | 241 => 83 | 276 => 56 | 277 => 88 | n => n, fun | 9 => 9 | 3 => 3 | 4 => 4 | 20 => 20 | 0 => 0 | 46 => 94 | 109 => 95 | 5 => 5 | 72 => 69 | 76 => 73 | 51 => 88 | 146 => 123 | 53 => 112 | 148 => 125 | 70 => 67 | 37 => 46 | 75 => 72 | 127 => 85 | 164 => 103 | 80 => 75 | n => n, fun | n => n⟩
theorem Tryd.lays105 : Go.Proofs.Lays.n105 Tryd.prog Tryd.lays105_ren := {
  mixed := by kernel_rfl
  f99 := Tryd.func72.trans (congrArg some (by kernel_rfl))
  f105 := Tryd.func52.trans (congrArg some (by kernel_rfl))
  f165 := Tryd.func73.trans (congrArg some (by kernel_rfl))
  f166 := Tryd.func26.trans (congrArg some (by kernel_rfl))
  f169 := Tryd.func27.trans (congrArg some (by kernel_rfl))
  f170 := Tryd.func74.trans (congrArg some (by kernel_rfl))
  f206 := Tryd.func82.trans (congrArg some (by kernel_rfl))
  f212 := Tryd.func51.trans (congrArg some (by kernel_rfl))
  f240 := Tryd.func40.trans (congrArg some (by kernel_rfl))
  f241 := Tryd.func83.trans (congrArg some (by kernel_rfl))
  f263 := Tryd.func70.trans (congrArg some (by kernel_rfl))
  f264 := Tryd.func71.trans (congrArg some (by kernel_rfl))
  f276 := Tryd.func56.trans (congrArg some (by kernel_rfl))
  f277 := Tryd.func88.trans (congrArg some (by kernel_rfl))
  t0 := Tryd.underlying0
  a0 := Tryd.isAgg0
  z0 := Tryd.sizeOf0
  v0 := Tryd.zeroValue0
  t3 := Tryd.underlying3
  a3 := Tryd.isAgg3
  z3 := Tryd.sizeOf3
  v3 := Tryd.zeroValue3
  t4 := Tryd.underlying4
  a4 := Tryd.isAgg4
  z4 := Tryd.sizeOf4
  v4 := Tryd.zeroValue4
  t5 := Tryd.underlying5
  a5 := Tryd.isAgg5
  z5 := Tryd.sizeOf5
  v5 := Tryd.zeroValue5
  t9 := Tryd.underlying9
  a9 := Tryd.isAgg9
  z9 := Tryd.sizeOf9
  v9 := Tryd.zeroValue9
  t20 := Tryd.underlying20
  a20 := Tryd.isAgg20
  z20 := Tryd.sizeOf20
  v20 := Tryd.zeroValue20
  t37 := Tryd.underlying46
  a37 := Tryd.isAgg46
  z37 := Tryd.sizeOf46
  v37 := Tryd.zeroValue46
  t46 := Tryd.underlying94
  a46 := Tryd.isAgg94
  z46 := Tryd.sizeOf94
  v46 := Tryd.zeroValue94
  t51 := Tryd.underlying88
  a51 := Tryd.isAgg88
  z51 := Tryd.sizeOf88
  v51 := Tryd.zeroValue88
  t53 := Tryd.underlying112
  a53 := Tryd.isAgg112
  z53 := Tryd.sizeOf112
  v53 := Tryd.zeroValue112
  t70 := Tryd.underlying67
  a70 := Tryd.isAgg67
  z70 := Tryd.sizeOf67
  v70 := Tryd.zeroValue67
  t72 := Tryd.underlying69
  a72 := Tryd.isAgg69
  z72 := Tryd.sizeOf69
  v72 := Tryd.zeroValue69
  t75 := Tryd.underlying72
  a75 := Tryd.isAgg72
  z75 := Tryd.sizeOf72
  v75 := Tryd.zeroValue72
  t76 := Tryd.underlying73
  a76 := Tryd.isAgg73
  z76 := Tryd.sizeOf73
  v76 := Tryd.zeroValue73
  t109 := Tryd.underlying95
  a109 := Tryd.isAgg95
  z109 := Tryd.sizeOf95
  v109 := Tryd.zeroValue95
  t127 := Tryd.underlying85
  a127 := Tryd.isAgg85
  z127 := Tryd.sizeOf85
  v127 := Tryd.zeroValue85
  t146 := Tryd.underlying123
  a146 := Tryd.isAgg123
  z146 := Tryd.sizeOf123
  v146 := Tryd.zeroValue123
  t148 := Tryd.underlying125
  a148 := Tryd.isAgg125
  z148 := Tryd.sizeOf125
  v148 := Tryd.zeroValue125
  t164 := Tryd.underlying103
  a164 := Tryd.isAgg103
  z164 := Tryd.sizeOf103
  v164 := Tryd.zeroValue103 }
theorem Tryd.Builder_Extra_105 : Builder.Extra Tryd.prog Tryd.lays105_ren := {
  sizeBuilder := by kernel_rfl
  liesBuilder := by kernel_rfl
  t5 := Tryd.underlying5
  a5 := Tryd.isAgg5
  z5 := Tryd.sizeOf5
  v5 := Tryd.zeroValue5
  infoByte := by kernel_rfl
  cellsByte := by kernel_rfl
  sizeByte := by kernel_rfl
  neB5 := by decide }
open Go.RowKit Go.Lib in
theorem Tryd.strings_Repeat (s : ByteArray) (c : Nat) (w : World) (hc : c ≤ 9223372036854775807) (hlen : s.size * c ≤ 140737488355328) :
    Calls Tryd.prog 52 #[.string s, .int .i64 c] w fun e w' => e = .returned (.string ⟨(Lib.repeatL s.data.toList c).toArray⟩) ∧ Below w.heap.size w w' := Any.strings_Repeat Tryd.lays105 Tryd.Builder_Extra_105 s c w hc hlen
end Go.Proofs
/- The contracts of a sector's Check and Text, and of the reference's. -/
namespace Go.Proofs.YtbmhmljbpjimoaaDoor
open Go.RowKit
set_option linter.unusedVariables false
set_option maxRecDepth 100000

def SV (s : Codec.Sec) : Value := .agg #[.int .i64 (s.stamp : Int), .int .u8 (s.mark : Int), .string (S s.data)]
def RV (s : Codec.Sec) : Value := .agg #[.int .i64 (s.stamp : Int), .int .i64 (s.mark : Int), .string (S s.data)]
def chk (st : Int) (d : List UInt8) : Int := if st < 1 ∨ 1099511627776 < st then 18 else if 44 < d.length then 3 else 0

theorem check_any (st mk : Int) (d : List UInt8) (w : World) :
    Calls Tryd.prog 35 #[.agg #[.int .i64 st, .int .u8 mk, .string (S d)]] w fun e w' => e = .returned (.int .i64 (chk st d)) ∧ Below w.heap.size w w' := by
  have hsz : (S d).size = d.length := rfl
  go_enter Tryd.func35, Tryd.ntmps35
  go_wp2_with fail
  all_goals
    go_ret
    refine ⟨ret_int ?_, (Below.refl _ _).alloc (Nat.le_refl _) _⟩
    unfold chk
    first
      | rw [if_pos (by omega)]
      | rw [if_neg (by omega), if_pos (by omega)]
      | rw [if_neg (by omega), if_neg (by omega)]
theorem four_list (n : Nat) (h : n < 4294967296) : four n = S (Codec.four n) := by
  unfold four Codec.four strOfNums S
  congr 1
  have h1 : ((n : Int) % 256).toNat = n % 256 := by omega
  have h2 : ((n : Int) / 256 % 256).toNat = n / 256 % 256 := by omega
  have h3 : ((n : Int) / 65536 % 256).toNat = n / 65536 % 256 := by omega
  have h4 : ((n : Int) / 16777216).toNat = n / 16777216 % 256 := by omega
  simp only [List.map_cons, List.map_nil, h1, h2, h3, h4]
/- The sum's bytes of one text, as stamp asks for them. -/
theorem sum_any (l : List UInt8) (w : World) (hl : l.length ≤ 1099511627776) :
    Calls Tryd.prog 44 #[.slice (some ⟨w.heap.size, 0, none⟩) 1 1] (w.alloc (.cells #[.string (S l)] 9)) fun e w' => e = .returned (.int .u32 (Crc.crc l : Nat)) ∧ Below w.heap.size w w' :=
  of_one (S l) w (by unfold maxLen; show l.length ≤ _; omega)
theorem four_any (l : List UInt8) (w : World) :
    Calls Tryd.prog 43 #[.int .u32 (Crc.crc l : Nat)] w fun e w' => e = .returned (.string (S (Codec.sumOf l))) ∧ Below w.heap.size w w' := by
  have := bytes_any (Crc.crc l) w (Crc.crc_lt l)
  rw [four_list _ (Crc.crc_lt l)] at this
  exact this
end Go.Proofs.YtbmhmljbpjimoaaDoor
/- The contract of a sector's Text. -/
namespace Go.Proofs.YtbmhmljbpjimoaaDoor
open Go.RowKit
set_option linter.unusedVariables false
set_option maxRecDepth 100000

theorem repeat_zero : ∀ n, Lib.repeatL [(0 : UInt8)] n = List.replicate n 0
  | 0 => rfl
  | n + 1 => by simp [Lib.repeatL, repeat_zero n, List.replicate_succ]

/- A new Out: every other block is none of its. -/
theorem foreign_blank {W wx : World} {B sb : Nat} (hc : W.cell? ⟨B, 0, none⟩ = some (.slice none 0 0)) (hB : B < W.heap.size) (hb : Below W.heap.size W wx) (hs : sb ≠ B) : Foreign wx B sb := by
  refine ⟨hs, fun v hv e => ?_⟩
  rw [hb.cell (p := ⟨B, 0, none⟩) hB, hc] at hv
  cases hv
  cases e

theorem Foreign.fresh {w : World} {b : Nat} {l : List UInt8} (h : OutAt w b l) (o : Obj) : Foreign (w.alloc o) b w.heap.size := by
  obtain ⟨ao, c, hc, hown⟩ := h.cell
  refine ⟨by have := h.lt; omega, fun v hv e => ?_⟩
  rw [World.cell?_of_block (w := w) (a := ⟨b, 0, none⟩) (Below.heap_alloc _ _ _ h.lt), hc] at hv
  cases hv
  have := (hown.lt _ e).2
  omega

/- Two numbers onto a new Out. -/
theorem two_any {W : World} {B : Nat} (hO : OutAt W B []) (hcB : W.cell? ⟨B, 0, none⟩ = some (.slice none 0 0)) (st mk : Nat) (h1 : st ≤ 1099511627776) (h2 : mk ≤ 255) (wx : World) (sb : Nat) (hb : Below W.heap.size W wx) (hsb : sb ≠ B)
    (c0 : wx.cell? ⟨sb, 0, none⟩ = some (.int .i64 (st : Int))) (c1 : wx.cell? ⟨sb, 1, none⟩ = some (.int .i64 (mk : Int))) :
    Calls Tryd.prog 53 #[.pointer (some ⟨B, 0, none⟩), .slice (some ⟨sb, 0, none⟩) 2 2] wx fun e w' => e = .returned (.pointer (some ⟨B, 0, none⟩)) ∧ OutAt w' B (Codec.enc st ++ Codec.enc mk) ∧ wx.heap.size ≤ w'.heap.size ∧ (∀ k, k < wx.heap.size → k ≠ B → w'.heap[k]? = wx.heap[k]? ∧ Foreign w' B k) ∧ (∀ B', B' ≤ W.heap.size → B' ≤ B → Below B' wx w') := by
  have hOx := (hO.later hb).1
  have hf : Foreign wx B sb := foreign_blank hcB hO.lt hb hsb
  have := outN_any B [] [(st : Int), (mk : Int)] (some ⟨sb, 0, none⟩) 2 2 wx hOx rfl (by simp) (by simp)
    (by
      intro i hi
      obtain rfl | rfl : i = 0 ∨ i = 1 := by simp at hi; omega
      · simp; omega
      · simp; omega)
    (by
      intro i hi
      refine ⟨sb, 0, rfl, cell_lt c0, hf, ?_⟩
      obtain rfl | rfl : i = 0 ∨ i = 1 := by simp at hi; omega
      · exact c0
      · exact c1)
  refine this.mono ?_
  rintro e w' ⟨rfl, ho, hst⟩
  have e1 : [] ++ encN [(st : Int), (mk : Int)] = Codec.enc st ++ Codec.enc mk := by simp [encN]
  rw [e1] at ho
  exact ⟨rfl, ho, hst.size, fun k hk hne => hst.keep k hk (foreign_blank hcB hO.lt hb hne), fun B' hB' hB2 => hst.below hOx hB2⟩
theorem onS_any {wy : World} {B : Nat} {l : List UInt8} (hO : OutAt wy B l) (hl : l.length ≤ 1000) (d : List UInt8) (hd : d.length ≤ 1000) (sb : Nat) (hf : Foreign wy B sb) (c0 : wy.cell? ⟨sb, 0, none⟩ = some (.string (S d))) :
    Calls Tryd.prog 54 #[.pointer (some ⟨B, 0, none⟩), .slice (some ⟨sb, 0, none⟩) 1 1] wy fun e w' => e = .returned (.pointer (some ⟨B, 0, none⟩)) ∧ OutAt w' B (l ++ Codec.encS d) ∧ Step B wy w' := by
  have := outS_any B l [d] (some ⟨sb, 0, none⟩) 1 1 wy hO rfl (by simp) (by omega)
    (by intro i hi; obtain rfl : i = 0 := by simp at hi; omega
        simp; omega)
    (by intro i hi; obtain rfl : i = 0 := by simp at hi; omega
        exact ⟨sb, 0, rfl, cell_lt c0, hf, c0⟩)
  refine this.mono ?_
  rintro e w' ⟨rfl, ho, hst⟩
  have e1 : encT [d] = Codec.encS d := by simp [encT]
  rw [e1] at ho
  exact ⟨rfl, ho, hst⟩

set_option maxHeartbeats 3200000 in
theorem stext_any (s : Codec.Sec) (w : World) (h : s.Ok) (h44 : s.data.length ≤ 44) :
    Calls Tryd.prog 37 #[SV s] w fun e w' => e = .returned (.string (S (Codec.secText s))) ∧ Below w.heap.size w w' := by
  obtain ⟨st, mk, d⟩ := s
  have h1 := h.st
  have h2 := h.mrk
  have hbl := Codec.body_length44 _ h h44
  dsimp only at h1 h2 h44
  have hnew := OutAt.new
  obtain ⟨W, hW⟩ : ∃ W, (w.alloc (.cells #[.int .i64 (st : Int), .int .u8 (mk : Int), .string (S d)] 48)).alloc (.cells #[.slice none 0 0] 99) = W := ⟨_, rfl⟩
  have hbW : Below w.heap.size w W := by rw [← hW]; exact ((Below.refl _ _).alloc (Nat.le_refl _) _).alloc (by simp) _
  have hO : OutAt W (w.heap.size + 1) [] := by
    have := OutAt.new (w.alloc (.cells #[.int .i64 (st : Int), .int .u8 (mk : Int), .string (S d)] 48))
    rw [World.size_alloc, hW] at this
    exact this
  have hcB : W.cell? ⟨w.heap.size + 1, 0, none⟩ = some (.slice none 0 0) := by
    obtain ⟨ao, c, h1, h2⟩ := hO.cell
    rw [h1]
    rcases h2.2 with ⟨e, _⟩ | ⟨g, cap, cur, e, _, hh, _⟩
    · rw [e]
    · exfalso
      rw [← hW, World.cell?_alloc2_new] at h1
      cases h1
      cases e
  have hq0 : W.heap[w.heap.size]? = some (.cells #[.int .i64 (st : Int), .int .u8 (mk : Int), .string (S d)] 48 (0, 0)) := by
    rw [← hW, Below.heap_alloc _ _ _ (by simp)]; exact heap_alloc_new w _
  have hsz : W.heap.size = w.heap.size + 1 + 1 := by rw [← hW]; simp
  have d0 : W.cell? ⟨w.heap.size, 0, none⟩ = some (.int .i64 (st : Int)) := by rw [World.cell?, hq0]; rfl
  have d1 : W.cell? ⟨w.heap.size, 1, none⟩ = some (.int .u8 (mk : Int)) := by rw [World.cell?, hq0]; rfl
  have d2 : W.cell? ⟨w.heap.size, 2, none⟩ = some (.string (S d)) := by rw [World.cell?, hq0]; rfl
  have HTN := hide (two_any hO hcB st mk h1 h2)
  have hel : (Codec.enc st ++ Codec.enc mk).length ≤ 1000 := by
    have := Codec.enc_short st (by omega)
    have := Codec.enc_short mk (by omega)
    rw [List.length_append]; omega
  have HTS := hide (fun wy (hO : OutAt wy (w.heap.size + 1) (Codec.enc st ++ Codec.enc mk)) sb hf c0 => onS_any hO hel d (by omega) sb hf c0)
  have HTT := hide (fun l wy (hO : OutAt wy (w.heap.size + 1) l) => text_any (w.heap.size + 1) l wy hO)
  have hbd : Codec.enc st ++ Codec.enc mk ++ Codec.encS d = Codec.body ⟨st, mk, d⟩ := rfl
  rw [hbd] at HTS
  have HREP := hide (fun c (hc : c ≤ 60) wy => Tryd.strings_Repeat (S [0]) c wy (by omega) (by show 1 * c ≤ _; omega))
  have HST : Hid (Codec.secText ⟨st, mk, d⟩ = Codec.sumOf (Codec.pad60 (Codec.body ⟨st, mk, d⟩)) ++ Codec.pad60 (Codec.body ⟨st, mk, d⟩)) := rfl
  obtain ⟨T, hT⟩ : ∃ T, Codec.secText ⟨st, mk, d⟩ = T := ⟨_, rfl⟩
  rw [hT] at HST
  rw [hT]
  generalize Codec.body ⟨st, mk, d⟩ = bd at *
  generalize Codec.enc st ++ Codec.enc mk = l1 at *
  have HW := hide hW
  have HBW := hide hbW
  have HO := hide hO
  have HSZ := hide hsz
  have hwm : IntKind.i64.wrap (mk : Int) = (mk : Int) := by rw [IntKind.wrap_i64]; omega
  have hne1 : w.heap.size ≠ w.heap.size + 1 := by omega
  have hltW : w.heap.size < W.heap.size := by omega
  clear hnew hW hbW hO hcB hq0 hsz hel hbd hT h
  unfold SV
  go_enter Tryd.func37, Tryd.ntmps37
  go_wp2_with fail
  rw [unhide HW]
  clear HW
  go_region_held3 (fun w' => w'.cell? ⟨w.heap.size, 0, none⟩ = some (.int .i64 (st : Int)) ∧ w'.cell? ⟨w.heap.size, 1, none⟩ = some (.int .u8 (mk : Int)) ∧ w'.cell? ⟨w.heap.size, 2, none⟩ = some (.string (S d))) (go_keep)
    (first
      | (go_at_call 53; refine (unhide HTN _ _ (by first | exact ((Below.refl _ _).alloc (Nat.le_refl _) _).drew | exact (((Below.refl _ _).alloc (Nat.le_refl _) _).alloc (by simp) _).drew) (by have := unhide HSZ; simp; omega) (by simp) (by simp)).mono ?_; rintro e w3 ⟨rfl, hO3, hs3, hk3, hbl3⟩; have d30 := World.cell?_of_block (a := ⟨w.heap.size, 0, none⟩) (hk3 w.heap.size (by simp; omega) hne1).1; have d31 := World.cell?_of_block (a := ⟨w.heap.size, 1, none⟩) (hk3 w.heap.size (by simp; omega) hne1).1; have d32 := World.cell?_of_block (a := ⟨w.heap.size, 2, none⟩) (hk3 w.heap.size (by simp; omega) hne1).1; have hc3 := fun (k : Nat) hne hc => (World.cell?_of_block (a := ⟨k, 0, none⟩) (hk3 k (cell_lt (v := .string (S d)) (o := 0) hc) hne).1).trans hc)
      | (go_at_call 54; refine (unhide HTS _ (by first | exact hO3 | exact (hO3.later ((Below.refl _ _).alloc (Nat.le_refl _) _)).1) _ (by first | exact Foreign.fresh hO3 _ | exact (hk3 _ (by first | (simp; done) | (simp; omega)) (by have := unhide HSZ; omega)).2) (by first | exact hc3 _ (by have := unhide HSZ; omega) (by simp) | simp)).mono ?_; rintro e w4 ⟨rfl, hO4, hst4⟩; have k4 : w4.heap[w.heap.size]? = w3.heap[w.heap.size]? := (by first | exact (hst4.keep w.heap.size (by simp at hs3; omega) (hk3 w.heap.size (by simp; omega) hne1).2).1 | exact (hst4.keep w.heap.size (by simp at hs3; simp; omega) ((hO3.later ((Below.refl _ _).alloc (Nat.le_refl _) _)).2.keep w.heap.size (by simp at hs3; omega) (hk3 w.heap.size (by simp; omega) hne1).2).2).1.trans (Below.heap_alloc _ _ _ (by simp at hs3; omega))); have d40 := World.cell?_of_block (a := ⟨w.heap.size, 0, none⟩) k4; have d41 := World.cell?_of_block (a := ⟨w.heap.size, 1, none⟩) k4; have d42 := World.cell?_of_block (a := ⟨w.heap.size, 2, none⟩) k4; have HO4 := hide hO4; have HB4 : Hid (Below w.heap.size w w4) := (by first | exact (((unhide HBW).trans ((((Below.refl _ _).alloc (Nat.le_refl _) _).drew).mono (by omega))).trans (hbl3 w.heap.size (by omega) (by omega))).trans ((((Below.refl _ _).alloc (Nat.le_refl _) _).mono (by simp at hs3; omega)).trans (hst4.below (hO3.later ((Below.refl _ _).alloc (Nat.le_refl _) _)).1 (by omega))) | exact (((unhide HBW).trans (((((Below.refl _ _).alloc (Nat.le_refl _) _).alloc (by simp) _).drew).mono (by omega))).trans (hbl3 w.heap.size (by omega) (by omega))).trans (hst4.below hO3 (by omega))); clear hO4 hst4)
      | (go_at_call 55; refine (unhide HTT _ _ (unhide HO4)).mono ?_; rintro e w5 ⟨rfl, rfl⟩)
      | fail)
  all_goals
    clear d30 d31 d32 d40 d41 d42 hk3 hbl3 hc3 hs3 k4 hO3
    have hbs : (S bd).size = bd.length := rfl
    obtain ⟨m, hm⟩ : ∃ m, bd.length = m := ⟨_, rfl⟩
    rw [hm] at hbs hbl
    have hmx : max (0 : Int) (60 - (m : Int)) = ((60 - m : Nat) : Int) := by omega
    have hw6 : IntKind.i64.wrap (60 - (m : Int)) = 60 - (m : Int) := by rw [IntKind.wrap_i64]; omega
    have HM := hide hm
    clear hm HTN HTS HTT d0 d1 d2
    go_wp2_with fail
    refine (unhide HREP (60 - m) (by omega) _).mono ?_
    rw [S_toList, repeat_zero]
    obtain ⟨z, hz⟩ : ∃ z : List UInt8, List.replicate (60 - m) 0 = z := ⟨_, rfl⟩
    have hzs : (⟨z.toArray⟩ : ByteArray).size = 60 - m := by rw [← hz]; simp [ByteArray.size]
    have HZ := hide hz
    rw [hz]
    rintro e w6 ⟨rfl, hb6⟩
    have hno : ¬9223372036854775807 < m + (⟨z.toArray⟩ : ByteArray).size := by omega
    have HB6 := hide ((unhide HB4).trans (hb6.mono (unhide HB4).size))
    have hpad : S bd ++ (⟨z.toArray⟩ : ByteArray) = S (Codec.pad60 bd) := by
      unfold Codec.pad60
      rw [unhide HM, unhide HZ]
      exact S_append bd z
    have hpl : (Codec.pad60 bd).length = 60 := Codec.pad60_length _ (by have := unhide HM; omega)
    have HOF := hide (fun wy => sum_any (Codec.pad60 bd) wy (by omega))
    have HFO := hide (fun wy => four_any (Codec.pad60 bd) wy)
    have hfl : (Codec.sumOf (Codec.pad60 bd)).length = 4 := rfl
    have hps : (S (Codec.pad60 bd)).size = 60 := hpl
    have hfs : (S (Codec.sumOf (Codec.pad60 bd))).size = 4 := hfl
    have hap := S_append (Codec.sumOf (Codec.pad60 bd)) (Codec.pad60 bd)
    rw [← unhide HST] at hap
    generalize Codec.sumOf (Codec.pad60 bd) = q4 at *
    generalize Crc.crc (Codec.pad60 bd) = qn at *
    generalize Codec.pad60 bd = q60 at *
    clear hz hb6 HREP
    go_wp2_with fail
    refine (unhide HOF _).mono ?_
    rintro e w7 ⟨rfl, hb7⟩
    have HB7 := hide ((unhide HB6).trans (hb7.mono (unhide HB6).size))
    clear hb7
    go_wp2_with fail
    refine (unhide HFO _).mono ?_
    rintro e w8 ⟨rfl, hb8⟩
    have HB8 := hide ((unhide HB7).trans (hb8.mono (unhide HB7).size))
    clear hb8
    go_wp2_with fail
    go_ret
    exact ⟨rfl, unhide HB8⟩
end Go.Proofs.YtbmhmljbpjimoaaDoor
/- The contract of stamp's Parse. -/
namespace Go.Proofs.YtbmhmljbpjimoaaDoor
open Go.RowKit
set_option linter.unusedVariables false
set_option maxRecDepth 100000

theorem bcell {w : World} {b : Nat} {cs : Array Value} {t : TypeId} {fz : Nat × Nat} (h : w.heap[b]? = some (.cells cs t fz)) (k : Nat) : w.cell? ⟨b, k, none⟩ = cs[k]? := by simp [World.cell?, h]
theorem bfroz {w : World} {b : Nat} {cs : Array Value} {t : TypeId} (h : w.heap[b]? = some (.cells cs t (0, 0))) (k : Nat) : w.frozen? ⟨b, k, none⟩ = false := by simp [World.frozen?, h]
theorem blt {w : World} {b : Nat} {o : Obj} (h : w.heap[b]? = some o) : b < w.heap.size := (Array.getElem?_eq_some_iff.1 h).1
theorem set3 {w : World} {n : Nat} {x y z : Value} {t : TypeId} (h : w.heap[n]? = some (.cells #[x, y, z] t (0, 0))) (a b c : Value) :
    (((w.setCell ⟨n, 0, none⟩ a).setCell ⟨n, 1, none⟩ b).setCell ⟨n, 2, none⟩ c).heap[n]? = some (.cells #[a, b, c] t (0, 0)) :=
  heap_setCell_same _ n 2 _ t c (heap_setCell_same _ n 1 _ t b (heap_setCell_same _ n 0 _ t a h))
theorem below3 {w wr : World} (h : Below w.heap.size w wr) (a b c : Value) : Below w.heap.size w (((wr.setCell ⟨w.heap.size, 0, none⟩ a).setCell ⟨w.heap.size, 1, none⟩ b).setCell ⟨w.heap.size, 2, none⟩ c) :=
  ((h.setCell (p := ⟨w.heap.size, 0, none⟩) (Nat.le_refl _) a).setCell (p := ⟨w.heap.size, 1, none⟩) (Nat.le_refl _) b).setCell (p := ⟨w.heap.size, 2, none⟩) (Nat.le_refl _) c

/- What lies there while a sector is read: the In, the sector's box, the place of the result. -/
structure PS (w wr : World) (I B : Nat) (s : Codec.St) (st mk : Int) (dt : List UInt8) : Prop where
  inn : InAt wr I s
  box : wr.heap[B]? = some (.cells #[.int .i64 st, .int .u8 mk, .string (S dt)] 48 (0, 0))
  res : wr.heap[w.heap.size]? = some (.cells #[.int .i64 0, .int .u8 0, .string ⟨#[]⟩] 48 (0, 0))
  bel : Below w.heap.size w wr
  i0 : w.heap.size < I
  ib : I < B
theorem PS.call {w wr w' : World} {I B : Nat} {s s' : Codec.St} {st mk : Int} {dt : List UInt8} (h : PS w wr I B s st mk dt) (hin : InAt w' I s') (hb : But I wr.heap.size wr w') : PS w w' I B s' st mk dt := by
  have h1 := h.i0
  have h2 := h.ib
  exact ⟨hin, (hb.block B (blt h.box) (by omega)).trans h.box, (hb.block w.heap.size (blt h.res) (by omega)).trans h.res, h.bel.trans (hb.below (by omega) h.bel.size), h.i0, h.ib⟩
theorem PS.in_of {w : World} {I B k : Nat} {s : Codec.St} (h : InAt w I s) (hne : B ≠ I) (v : Value) : InAt (w.setCell ⟨B, k, none⟩ v) I s := by
  have e : (w.setCell ⟨B, k, none⟩ v).heap[I]? = w.heap[I]? := heap_setCell_other w ⟨B, k, none⟩ I v (Ne.symm hne)
  exact ⟨by simpa using h.lt, by rw [World.cell?_of_block (w := w) (a := ⟨I, 0, none⟩) e]; exact h.c0, by rw [World.cell?_of_block (w := w) (a := ⟨I, 1, none⟩) e]; exact h.c1, by rw [World.frozen?_setCell]; exact h.f0, by rw [World.frozen?_setCell]; exact h.f1, h.len⟩
theorem PS.put {w wr : World} {I B : Nat} {s : Codec.St} {st mk : Int} {dt : List UInt8} (h : PS w wr I B s st mk dt) (k : Nat) (v : Value) (st' mk' : Int) (dt' : List UInt8) (e : #[.int .i64 st, .int .u8 mk, .string (S dt)].setIfInBounds k v = #[.int .i64 st', .int .u8 mk', .string (S dt')]) : PS w (wr.setCell ⟨B, k, none⟩ v) I B s st' mk' dt' := by
  have h1 := h.i0
  have h2 := h.ib
  refine ⟨PS.in_of h.inn (by omega) v, ?_, (heap_setCell_other wr ⟨B, k, none⟩ w.heap.size v (by simp; omega)).trans h.res, h.bel.setCell (p := ⟨B, k, none⟩) (by simp; omega) v, h.i0, h.ib⟩
  rw [← e]
  exact heap_setCell_same wr B k _ _ v h.box

theorem takeN_bound (m : Int) (s : Codec.St) : (Codec.takeN m s).1 ≤ (max m 0).toNat := by
  unfold Codec.takeN
  split
  · assumption
  · exact Nat.zero_le _
theorem PS.cells {w wr : World} {I B : Nat} {s : Codec.St} {st mk : Int} {dt : List UInt8} (h : PS w wr I B s st mk dt) :
    wr.cell? ⟨B, 0, none⟩ = some (.int .i64 st) ∧ wr.cell? ⟨B, 1, none⟩ = some (.int .u8 mk) ∧ wr.cell? ⟨B, 2, none⟩ = some (.string (S dt)) ∧ wr.frozen? ⟨B, 0, none⟩ = false ∧ wr.frozen? ⟨B, 1, none⟩ = false ∧ wr.frozen? ⟨B, 2, none⟩ = false ∧
    wr.cell? ⟨w.heap.size, 0, none⟩ = some (.int .i64 0) ∧ wr.cell? ⟨w.heap.size, 1, none⟩ = some (.int .u8 0) ∧ wr.cell? ⟨w.heap.size, 2, none⟩ = some (.string ⟨#[]⟩) ∧ wr.frozen? ⟨w.heap.size, 0, none⟩ = false ∧ wr.frozen? ⟨w.heap.size, 1, none⟩ = false ∧ wr.frozen? ⟨w.heap.size, 2, none⟩ = false :=
  ⟨by rw [bcell h.box]; rfl, by rw [bcell h.box]; rfl, by rw [bcell h.box]; rfl, bfroz h.box 0, bfroz h.box 1, bfroz h.box 2, by rw [bcell h.res]; rfl, by rw [bcell h.res]; rfl, by rw [bcell h.res]; rfl, bfroz h.res 0, bfroz h.res 1, bfroz h.res 2⟩
theorem sum_drew (l : List UInt8) (w : World) (hl : l.length ≤ 1099511627776) :
    Calls Tryd.prog 44 #[.slice (some ⟨w.heap.size, 0, none⟩) 1 1] (w.alloc (.cells #[.string (S l)] 9)).drew fun e w' => e = .returned (.int .u32 (Crc.crc l : Nat)) ∧ Below w.heap.size w w' := by
  have h := sum_any l w.drew hl
  have e1 : w.drew.alloc (.cells #[.string (S l)] 9) = (w.alloc (.cells #[.string (S l)] 9)).drew := rfl
  have e2 : w.drew.heap.size = w.heap.size := rfl
  rw [e1, e2] at h
  exact h.mono fun e w' ⟨h1, h2⟩ => ⟨h1, h2.os, h2.tape, h2.output, h2.size, h2.block⟩

theorem drop_zero : ∀ m : List UInt8, (∀ x ∈ m.dropWhile (· == 0), x = 0) → ∀ x ∈ m, x = 0
  | [], _, x, hx => absurd hx List.not_mem_nil
  | a :: m, h, x, hx => by
    by_cases ha : a = 0
    · subst ha
      rw [List.dropWhile_cons_of_pos (by simp)] at h
      rcases List.mem_cons.1 hx with hx | hx
      · exact hx
      · exact drop_zero m h x hx
    · rw [List.dropWhile_cons_of_neg (by simpa using ha)] at h
      exact absurd (h a List.mem_cons_self) ha
theorem drop_nil : ∀ m : List UInt8, m.dropWhile (· == 0) = [] ↔ ∀ x ∈ m, x = 0
  | [] => by simp
  | a :: m => by
    by_cases ha : a = 0
    · subst ha
      rw [List.dropWhile_cons_of_pos (by simp), drop_nil m]
      simp
    · rw [List.dropWhile_cons_of_neg (by simpa using ha)]
      simp [ha]
theorem trim_zero (l : List UInt8) : Lib.trimB l 0 = [] ↔ l.any (fun c => c != 0) = false := by
  unfold Lib.trimB Lib.trimLeftB Lib.trimRightB
  rw [drop_nil, List.any_eq_false]
  constructor
  · intro h c hc
    have := drop_zero l.reverse (fun x hx => h x (List.mem_reverse.2 hx)) c (List.mem_reverse.2 hc)
    simp [this]
  · intro h c hc
    have hm := List.mem_reverse.1 hc
    have := h c (List.mem_reverse.1 ((List.dropWhile_suffix _).subset hm))
    simpa using this

set_option maxHeartbeats 800000 in
theorem sparse_any (l : List UInt8) (w : World) (hl : l.length ≤ 1000) :
    Calls Tryd.prog 32 #[.string (S l)] w fun e w' => e = .returned (.tuple #[SV (Codec.parse l).1, .int .i64 (Codec.parse l).2]) ∧ Below w.heap.size w w' := by
  have hsz : (S l).size = l.length := rfl
  by_cases h64 : l.length = 64
  · have ht4 : (S l).extract 0 4 = S (l.take 4) := S_take l 4
    have hd4 : (S l).extract 4 (S l).size = S (l.drop 4) := S_drop l 4
    rw [hsz, h64] at hd4
    rw [h64] at hsz
    have hdl : (l.drop 4).length = 60 := by rw [List.length_drop]; omega
    have hof := sum_drew (l.drop 4) (w.alloc (.cells #[.int .i64 0, .int .u8 0, .string ⟨#[]⟩] 48)) (by omega)
    have hb0 : Below w.heap.size w (w.alloc (.cells #[.int .i64 0, .int .u8 0, .string ⟨#[]⟩] 48)) := (Below.refl _ w).alloc (Nat.le_refl _) _
    have hr0 := heap_alloc_new w (.cells #[.int .i64 0, .int .u8 0, .string ⟨#[]⟩] 48)
    rw [World.size_alloc] at hof
    have HOF := hide (hof.mono (R' := fun e w' => e = .returned (.int .u32 (Crc.crc (l.drop 4) : Nat)) ∧ Below w.heap.size w w' ∧ w'.heap[w.heap.size]? = some (.cells #[.int .i64 0, .int .u8 0, .string ⟨#[]⟩] 48 (0, 0))) (fun e w' h => ⟨h.1, hb0.trans (h.2.mono (by omega)), (h.2.block w.heap.size (by omega)).trans hr0⟩))
    clear hof hb0 hr0
    have HFO := hide (fun wy => four_any (l.drop 4) wy)
    have HP : Hid (Codec.parse l = if l.take 4 ≠ Codec.sumOf (l.drop 4) then (⟨0, 0, []⟩, 5) else Codec.behind (l.drop 4)) := by
      unfold Codec.parse; rw [if_neg (by omega)]; exact rfl
    have heq : ((64 : Int) == 64) = true := rfl
    generalize Codec.parse l = P at *
    generalize l.take 4 = q0 at *
    generalize l.drop 4 = q at *
    have hqs : (S q).size = 60 := hdl
    clear h64 hl
    by_cases hs : q0 = Codec.sumOf q
    · rw [if_neg (by simpa using hs)] at HP
      rw [unhide HP]
      rw [← hs] at HFO
      have hse : ((S q0).toList == (S q0).toList) = true := by simp
      have HRD := hide (fun wy => read_any q wy (by omega))
      have HN1 := hide (fun I wy (h : InAt wy I (q, 0)) => n_any I 1099511627776 (q, 0) wy h (by omega) (by omega))
      have HN2 := hide (fun I wy (h : InAt wy I (Codec.readNum q).2) => n_any I 255 (Codec.readNum q).2 wy h (by omega) (by omega))
      have HN3 := hide (fun I wy (h : InAt wy I (Codec.readMark q).2) => s_any I 44 (Codec.readMark q).2 wy h (by omega) (by omega))
      rw [show Codec.takeN 1099511627776 (q, 0) = Codec.readNum q from rfl] at HN1
      rw [show Codec.takeN 255 (Codec.readNum q).2 = Codec.readMark q from rfl] at HN2
      rw [show Codec.takeS 44 (Codec.readMark q).2 = Codec.readData q from rfl] at HN3
      have HER := hide (fun I wy (h : InAt wy I (Codec.readData q).2) => err_any I (Codec.readData q).2 wy h)
      have HLE := hide (fun I wy (h : InAt wy I (Codec.readData q).2) => len_any I (Codec.readData q).2 wy h)
      have HBH : Hid (Codec.behind q = if (Codec.readData q).2.2 ≠ 0 then (⟨0, 0, []⟩, (Codec.readData q).2.2) else if (Codec.readNum q).1 = 0 ∨ (Codec.readData q).2.1.any (fun c => c != 0) = true then (⟨0, 0, []⟩, 2) else (⟨(Codec.readNum q).1, (Codec.readMark q).1, (Codec.readData q).1⟩, 0)) := rfl
      have HBB := hide (Codec.behind_body q)
      have hn2 : (Codec.readMark q).1 ≤ 255 := by have := takeN_bound 255 (Codec.readNum q).2; unfold Codec.readMark; omega
      generalize Codec.behind q = BH at *
      generalize Codec.readData q = o3 at *
      generalize Codec.readMark q = o2 at *
      generalize Codec.readNum q = o1 at *
      obtain ⟨n1, s1⟩ := o1
      obtain ⟨n2, s2⟩ := o2
      obtain ⟨t3, r3, e3⟩ := o3
      dsimp only at HN1 HN2 HN3 HER HLE HBH HBB hn2
      have hw8 : IntKind.u8.wrap (n2 : Int) = (n2 : Int) := by rw [IntKind.wrap_u8']; omega
      generalize Crc.crc q = qn at *
      clear hs HP
      go_enter Tryd.func32, Tryd.ntmps32
      go_wp2_with fail
      go_region
      go_wp2_with fail
      refine (unhide HOF).mono ?_
      rintro e w2 ⟨rfl, hb2, hr2⟩
      have HR2 := hide hr2
      have HB2 := hide hb2
      clear hb2 hr2 HOF
      go_wp2_with fail
      refine (unhide HFO _).mono ?_
      rintro e w3 ⟨rfl, hb3⟩
      have hres : w3.heap[w.heap.size]? = _ := (hb3.block w.heap.size (blt (unhide HR2))).trans (unhide HR2)
      have HB := hide ((unhide HB2).trans (hb3.mono (unhide HB2).size))
      have HRES := hide hres
      clear hb3 hres
      go_wp2_with fail
      refine (unhide HRD w3).mono ?_
      rintro e w4 ⟨rfl, hin4, hb4, hs4⟩
      have hPS0 : PS w (w4.alloc (.cells #[.int .i64 0, .int .u8 0, .string ⟨#[]⟩] 48)) w3.heap.size (w3.heap.size + 1) (q, 0) 0 0 [] := by
        have hlt := blt (unhide HRES)
        have hbA : Below w4.heap.size w4 (w4.alloc (.cells #[.int .i64 0, .int .u8 0, .string ⟨#[]⟩] 48)) := (Below.refl _ _).alloc (Nat.le_refl _) _
        refine ⟨hin4.later hbA, by rw [← hs4]; exact heap_alloc_new w4 _, (hbA.block w.heap.size (by omega)).trans ((hb4.block w.heap.size hlt).trans (unhide HRES)), ((unhide HB).trans (hb4.mono (unhide HB).size)).alloc (by have := (unhide HB).size; omega) _, hlt, by omega⟩
      have HPS0 := hide hPS0
      have hs4' : w4.heap.size = w3.heap.size + 1 := hs4
      clear hin4 hb4 hs4 hPS0 HRD HRES HB HR2 HB2
      obtain ⟨I, hI⟩ : ∃ I, w3.heap.size = I := ⟨_, rfl⟩
      rw [hI] at HPS0 hs4'
      go_wp2_with fail
      clear hI
      refine (unhide HN1 _ _ (unhide HPS0).inn).mono ?_
      rintro e w5 ⟨rfl, hin5, hbut5⟩
      have HPS1 := hide ((unhide HPS0).call hin5 hbut5)
      obtain ⟨x0, x1, x2, y0, y1, y2, _⟩ := (unhide HPS1).cells
      clear hin5 hbut5 HPS0 HN1
      go_wp2_with fail
      have HPS2 := hide ((unhide HPS1).put 0 (.int .i64 (n1 : Int)) (n1 : Int) 0 [] rfl)
      clear x0 x1 x2 y0 y1 y2 HPS1
      refine (unhide HN2 _ _ (unhide HPS2).inn).mono ?_
      rintro e w6 ⟨rfl, hin6, hbut6⟩
      have HPS3 := hide ((unhide HPS2).call hin6 hbut6)
      obtain ⟨x0, x1, x2, y0, y1, y2, _⟩ := (unhide HPS3).cells
      clear hin6 hbut6 HPS2 HN2
      go_wp2_with fail
      have HPS4 := hide ((unhide HPS3).put 1 (.int .u8 (n2 : Int)) (n1 : Int) (n2 : Int) [] rfl)
      clear x0 x1 x2 y0 y1 y2 HPS3
      refine (unhide HN3 _ _ (unhide HPS4).inn).mono ?_
      rintro e w7 ⟨rfl, hin7, hbut7⟩
      have HPS5 := hide ((unhide HPS4).call hin7 hbut7)
      obtain ⟨x0, x1, x2, y0, y1, y2, _⟩ := (unhide HPS5).cells
      clear hin7 hbut7 HPS4 HN3
      go_wp2_with fail
      have HPS6 := hide ((unhide HPS5).put 2 (.string (S t3)) (n1 : Int) (n2 : Int) t3 rfl)
      clear x0 x1 x2 y0 y1 y2 HPS5
      refine (unhide HER _ _ (unhide HPS6).inn).mono ?_
      rintro e w8 ⟨rfl, rfl⟩
      obtain ⟨wr, hwr⟩ : ∃ wr, w7.setCell ⟨I + 1, 2, none⟩ (.string (S t3)) = wr := ⟨_, rfl⟩
      rw [hwr] at HPS6 ⊢
      clear hwr
      obtain ⟨x0, x1, x2, y0, y1, y2, r0, r1, r2, f0, f1, f2⟩ := (unhide HPS6).cells
      by_cases he : e3 = 0
      · subst he
        rw [if_neg (by simp)] at HBH
        have he0 : ((0 : Int) == 0) = true := rfl
        obtain ⟨lo, hlo, hex⟩ : ∃ lo : Nat, (60 : Int) - (r3.length : Int) = (lo : Int) ∧ (S q).extract lo (S q).size = S r3 := by
          have h1 := (unhide HBB rfl).1
          refine ⟨(Codec.body ⟨n1, n2, t3⟩).length, ?_, ?_⟩
          · have := congrArg List.length h1
            rw [List.length_append] at this
            omega
          · rw [S_drop]
            congr 1
            conv => lhs; rw [h1]
            exact List.drop_left' rfl
        rw [hqs] at hex
        have hw6 : IntKind.i64.wrap ((60 : Int) - (r3.length : Int)) = (lo : Int) := by rw [IntKind.wrap_i64, ← hlo]; omega
        have hlo60 : lo ≤ 60 := by omega
        have hlo1 : (0 : Int) ≤ (lo : Int) := by omega
        have hlo2 : (lo : Int) ≤ 60 := by omega
        have HTR := hide (fun wy => Tryd.strings_Trim_one (S r3) 0 (by decide) wy (by show r3.length ≤ _; omega))
        rw [S_toList] at HTR
        have HAN : Hid (Lib.trimB r3 0 = [] ↔ r3.any (fun c => c != 0) = false) := trim_zero r3
        generalize Lib.trimB r3 0 = tz at *
        generalize r3.any (fun c => c != 0) = an at *
        generalize (r3.length : Int) = rl at *
        go_wp2_with fail
        refine (unhide HLE _ _ (unhide HPS6).inn).mono ?_
        rintro e w9 ⟨rfl, rfl⟩
        have HLO := hide hlo
        clear hlo
        by_cases hn0 : n1 = 0
        · subst hn0
          rw [if_pos (Or.inl rfl)] at HBH
          go_wp2_with fail
          have h9 := set3 (unhide HPS6).res (.int .i64 0) (.int .u8 0) (.string ⟨#[]⟩)
          have c0 := bcell h9 0
          have c1 := bcell h9 1
          have c2 := bcell h9 2
          simp only [List.getElem?_toArray, List.getElem?_cons_zero, List.getElem?_cons_succ] at c0 c1 c2
          rw [unhide HBH]
          exact bodyPost_ret (v := .tuple #[SV ⟨0, 0, []⟩, .int .i64 2]) (by simp [results, Tryd.results32, go_sem, c0, c1, c2, SV, S]) rfl ⟨rfl, below3 (unhide HPS6).bel _ _ _⟩
        · have hn0' : ((n1 : Int) == 0) = false := by simp; omega
          go_wp2_with fail
          refine (unhide HTR w9).mono ?_
          rintro e wA ⟨rfl, hwA⟩
          have HPSA : Hid (PS w wA I (I + 1) (r3, 0) (n1 : Int) (n2 : Int) t3) := by
            rcases hwA with rfl | rfl
            · exact unhide HPS6
            · have h6 := unhide HPS6
              exact ⟨⟨h6.inn.lt, h6.inn.c0, h6.inn.c1, h6.inn.f0, h6.inn.f1, h6.inn.len⟩, h6.box, h6.res, h6.bel.drew, h6.i0, h6.ib⟩
          clear x0 x1 x2 y0 y1 y2 r0 r1 r2 f0 f1 f2 HPS6 hwA
          obtain ⟨x0, x1, x2, y0, y1, y2, r0, r1, r2, f0, f1, f2⟩ := (unhide HPSA).cells
          by_cases htz : tz = []
          · have han : an = false := (unhide HAN).1 htz
            subst han
            rw [if_neg (by simpa using hn0)] at HBH
            have hem : tz.isEmpty = true := by rw [htz]; rfl
            clear htz
            go_wp2_with fail
            have h9 := set3 (unhide HPSA).res (.int .i64 (n1 : Int)) (.int .u8 (n2 : Int)) (.string (S t3))
            have c0 := bcell h9 0
            have c1 := bcell h9 1
            have c2 := bcell h9 2
            simp only [List.getElem?_toArray, List.getElem?_cons_zero, List.getElem?_cons_succ] at c0 c1 c2
            rw [unhide HBH]
            exact bodyPost_ret (v := .tuple #[SV ⟨n1, n2, t3⟩, .int .i64 0]) (by simp [results, Tryd.results32, go_sem, c0, c1, c2, SV]) rfl ⟨rfl, below3 (unhide HPSA).bel _ _ _⟩
          · have han : an = true := by
              cases an with
              | true => rfl
              | false => exact absurd ((unhide HAN).2 rfl) htz
            subst han
            rw [if_pos (Or.inr rfl)] at HBH
            have hem : tz.isEmpty = false := by simpa using htz
            clear htz
            go_wp2_with fail
            have h9 := set3 (unhide HPSA).res (.int .i64 0) (.int .u8 0) (.string ⟨#[]⟩)
            have c0 := bcell h9 0
            have c1 := bcell h9 1
            have c2 := bcell h9 2
            simp only [List.getElem?_toArray, List.getElem?_cons_zero, List.getElem?_cons_succ] at c0 c1 c2
            rw [unhide HBH]
            exact bodyPost_ret (v := .tuple #[SV ⟨0, 0, []⟩, .int .i64 2]) (by simp [results, Tryd.results32, go_sem, c0, c1, c2, SV, S]) rfl ⟨rfl, below3 (unhide HPSA).bel _ _ _⟩
      · rw [if_pos he] at HBH
        have he0 : (e3 == 0) = false := by simpa using he
        go_wp2_with fail
        refine (unhide HER _ _ (unhide HPS6).inn).mono ?_
        rintro e w9 ⟨rfl, rfl⟩
        go_wp2_with fail
        have h9 := set3 (unhide HPS6).res (.int .i64 0) (.int .u8 0) (.string ⟨#[]⟩)
        have c0 := bcell h9 0
        have c1 := bcell h9 1
        have c2 := bcell h9 2
        simp only [List.getElem?_toArray, List.getElem?_cons_zero, List.getElem?_cons_succ] at c0 c1 c2
        rw [unhide HBH]
        exact bodyPost_ret (v := .tuple #[SV ⟨0, 0, []⟩, .int .i64 e3]) (by simp [results, Tryd.results32, go_sem, c0, c1, c2, SV, S]) rfl ⟨rfl, below3 (unhide HPS6).bel _ _ _⟩
    · rw [unhide HP, if_pos hs]
      have hsn : ((S q0).toList == (S (Codec.sumOf q)).toList) = false := by rw [S_list, S_list]; simpa using hs
      generalize Codec.sumOf q = q4 at *
      generalize Crc.crc q = qn at *
      clear hs HP
      go_enter Tryd.func32, Tryd.ntmps32
      go_wp2_with fail
      go_region
      all_goals
        go_wp2_with fail
        refine (unhide HOF).mono ?_
        rintro e w2 ⟨rfl, hb2, hr2⟩
        have HR2 := hide hr2
        have HB2 := hide hb2
        clear hb2 hr2 HOF
        go_wp2_with fail
        refine (unhide HFO _).mono ?_
        rintro e w3 ⟨rfl, hb3⟩
        have hres : w3.heap[w.heap.size]? = _ := (hb3.block w.heap.size (blt (unhide HR2))).trans (unhide HR2)
        have HB := hide ((unhide HB2).trans (hb3.mono (unhide HB2).size))
        have HRES := hide hres
        have r0 := bcell hres 0
        have r1 := bcell hres 1
        have r2 := bcell hres 2
        have f0 := bfroz hres 0
        have f1 := bfroz hres 1
        have f2 := bfroz hres 2
        simp only [List.getElem?_toArray, List.getElem?_cons_zero, List.getElem?_cons_succ] at r0 r1 r2
        clear hb3 hres
        go_wp2_with fail
        have h9 := set3 (unhide HRES) (.int .i64 0) (.int .u8 0) (.string ⟨#[]⟩)
        have c0 := bcell h9 0
        have c1 := bcell h9 1
        have c2 := bcell h9 2
        simp only [List.getElem?_toArray, List.getElem?_cons_zero, List.getElem?_cons_succ] at c0 c1 c2
        exact bodyPost_ret (v := .tuple #[SV ⟨0, 0, []⟩, .int .i64 5]) (by simp [results, Tryd.results32, go_sem, c0, c1, c2, SV, S]) rfl ⟨rfl, below3 (unhide HB) _ _ _⟩
  · have e : Codec.parse l = (⟨0, 0, []⟩, 1) := by unfold Codec.parse; rw [if_pos h64]
    rw [e]
    have hne : ((l.length : Int) == 64) = false := by simp; omega
    go_enter Tryd.func32, Tryd.ntmps32
    go_wp2_with fail
    exact bodyPost_ret (v := .tuple #[SV ⟨0, 0, []⟩, .int .i64 1]) (by simp [results, Tryd.results32, go_sem, SV, S]) rfl ⟨rfl, (Below.refl _ _).alloc (Nat.le_refl _) _⟩
end Go.Proofs.YtbmhmljbpjimoaaDoor
