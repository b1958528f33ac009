/- Texts that this proof needs, one behind the other: KMath, KBits, KAdd, KOf, KRef. -/
import Derived.Test.YtbmhmljbpjimoaaDoorBundleC1
import Derived.WalkKit
import Derived.WalkSpells
import Derived.WalkLawsBesides
import Derived.Laws.BitsAllLaws
import Derived.Laws.IdiomStrings
import Derived.Laws.BytesArg
/- Plain mathematics of the sum: a step of one bit on numbers of any width, the sum of bytes as steps of the bytes' number, that it is linear and tells 32 bits side by side. No program is named here. -/
namespace Crc

def poly : Nat := 3988292384
def step (n : Nat) : Nat := if n % 2 = 1 then n / 2 ^^^ poly else n / 2
def steps : Nat → Nat → Nat
  | 0, n => n
  | k + 1, n => steps k (step n)
def feed1 (n : Nat) (b : UInt8) : Nat := steps 8 (n ^^^ b.toNat)
def feed (n : Nat) (l : List UInt8) : Nat := l.foldl feed1 n
def ones : Nat := 4294967295
def crc (l : List UInt8) : Nat := ones - feed ones l

theorem poly_lt : poly < 4294967296 := by decide

theorem xor_mod_two (a b : Nat) : (a ^^^ b) % 2 = (a + b) % 2 := by
  have h : (a ^^^ b).testBit 0 = (a.testBit 0 ^^ b.testBit 0) := Nat.testBit_xor _ _ _
  simp only [Nat.testBit_zero] at h
  rcases Nat.mod_two_eq_zero_or_one a with ha | ha <;> rcases Nat.mod_two_eq_zero_or_one b with hb | hb <;>
    rcases Nat.mod_two_eq_zero_or_one (a ^^^ b) with hc | hc <;> simp [ha, hb, hc] at h <;> omega

theorem xor_div_two (a b : Nat) : (a ^^^ b) / 2 = a / 2 ^^^ b / 2 := by
  have := Nat.xor_div_two_pow (n := 1) (a := a) (b := b)
  simpa using this

theorem step_xor (a b : Nat) : step (a ^^^ b) = step a ^^^ step b := by
  have hm := xor_mod_two a b
  have hd := xor_div_two a b
  unfold step
  rcases Nat.mod_two_eq_zero_or_one a with ha | ha <;> rcases Nat.mod_two_eq_zero_or_one b with hb | hb
  · rw [if_neg (by omega), if_neg (by omega), if_neg (by omega), hd]
  · rw [if_pos (by omega), if_neg (by omega), if_pos (by omega), hd, Nat.xor_assoc]
  · rw [if_pos (by omega), if_pos (by omega), if_neg (by omega), hd, Nat.xor_assoc, Nat.xor_assoc, Nat.xor_comm (b / 2)]
  · rw [if_neg (by omega), if_pos (by omega), if_pos (by omega), hd]
    have : a / 2 ^^^ poly ^^^ (b / 2 ^^^ poly) = a / 2 ^^^ b / 2 ^^^ (poly ^^^ poly) := by
      rw [Nat.xor_assoc, Nat.xor_assoc, ← Nat.xor_assoc poly, Nat.xor_comm poly, Nat.xor_assoc]
    rw [this, Nat.xor_self, Nat.xor_zero]

theorem steps_xor (k a b : Nat) : steps k (a ^^^ b) = steps k a ^^^ steps k b := by
  induction k generalizing a b with
  | zero => rfl
  | succ k ih => simp only [steps, step_xor, ih]

theorem steps_add (j k n : Nat) : steps (j + k) n = steps k (steps j n) := by
  induction j generalizing n with
  | zero => simp [steps]
  | succ j ih => rw [Nat.succ_add]; simp only [steps, ih]

theorem step_two (n : Nat) : step (2 * n) = n := by
  unfold step; rw [if_neg (by omega)]; omega

theorem steps_pow (k n : Nat) : steps k (2 ^ k * n) = n := by
  induction k with
  | zero => simp [steps]
  | succ k ih => simp only [steps]; rw [Nat.pow_succ, Nat.mul_comm (2 ^ k) 2, Nat.mul_assoc, step_two, ih]

theorem xor_lt {a b : Nat} (ha : a < 4294967296) (hb : b < 4294967296) : a ^^^ b < 4294967296 :=
  Nat.xor_lt_two_pow (n := 32) (by omega) (by omega)

theorem step_lt {n : Nat} (h : n < 4294967296) : step n < 4294967296 := by
  unfold step; split
  · exact xor_lt (by omega) poly_lt
  · omega

theorem steps_lt {n : Nat} (k : Nat) (h : n < 4294967296) : steps k n < 4294967296 := by
  induction k generalizing n with
  | zero => exact h
  | succ k ih => exact ih (step_lt h)

theorem feed1_lt {n : Nat} (b : UInt8) (h : n < 4294967296) : feed1 n b < 4294967296 :=
  steps_lt 8 (xor_lt h (by have := b.toNat_lt; omega))

theorem feed_lt {n : Nat} (l : List UInt8) (h : n < 4294967296) : feed n l < 4294967296 := by
  induction l generalizing n with
  | nil => exact h
  | cons b l ih => exact ih (feed1_lt b h)

theorem feed_append (n : Nat) (l m : List UInt8) : feed n (l ++ m) = feed (feed n l) m := by simp [feed]

theorem crc_lt (l : List UInt8) : crc l < 4294967296 := by unfold crc ones; omega

/-- The number that bytes make, the lowest first. -/
def num : List UInt8 → Nat
  | [] => 0
  | b :: l => b.toNat ^^^ (2 ^ 8 * num l)

theorem feed_eq (n : Nat) (l : List UInt8) : feed n l = steps (8 * l.length) (n ^^^ num l) := by
  induction l generalizing n with
  | nil => simp [feed, num, steps]
  | cons b l ih =>
    show feed (feed1 n b) l = _
    rw [ih, List.length_cons, Nat.mul_succ, Nat.add_comm, steps_add]
    congr 1
    unfold feed1
    rw [num, ← Nat.xor_assoc, steps_xor 8 _ (2 ^ 8 * num l), steps_pow]

theorem step_zero : step 0 = 0 := rfl
theorem steps_zero (k : Nat) : steps k 0 = 0 := by
  induction k with
  | zero => rfl
  | succ k ih => simp only [steps, step_zero, ih]

theorem step_eq_zero {n : Nat} (h : n < 4294967296) (e : step n = 0) : n = 0 := by
  unfold step at e
  split at e
  · exfalso
    have h1 : n / 2 = poly := by
      have := congrArg (· ^^^ poly) e
      simpa [Nat.xor_assoc] using this
    unfold poly at h1; omega
  · omega

theorem steps_eq_zero {n : Nat} (k : Nat) (h : n < 4294967296) (e : steps k n = 0) : n = 0 := by
  induction k generalizing n with
  | zero => exact e
  | succ k ih => exact step_eq_zero h (ih (step_lt h) e)

theorem ones_sub {n : Nat} (h : n < 4294967296) : ones ^^^ n = ones - n := by
  apply Nat.eq_of_testBit_eq
  intro i
  have e : ones - n = 2 ^ 32 - (n + 1) := by unfold ones; omega
  rw [e, Nat.testBit_two_pow_sub_succ (by omega), Nat.testBit_xor, show ones = 2 ^ 32 - 1 from by decide, Nat.testBit_two_pow_sub_one]
  by_cases hi : i < 32
  · simp [hi]
  · have : n.testBit i = false := Nat.testBit_lt_two_pow (Nat.lt_of_lt_of_le h (by
      have : 2 ^ 32 ≤ 2 ^ i := Nat.pow_le_pow_right (by omega) (by omega)
      simpa using this))
    simp [hi, this]

theorem steps_succ (k n : Nat) : steps (k + 1) n = step (steps k n) := by rw [steps_add]; rfl

theorem step_odd {n : Nat} (h : n % 2 = 1) : step n = n / 2 ^^^ poly := by unfold step; rw [if_pos h]
theorem step_even {n : Nat} (h : n % 2 = 0) : step n = n / 2 := by unfold step; rw [if_neg (by omega)]

end Crc
/- Small facts on 32 bits as the walk spells them, and the contract of crc's eight steps: the Go function answers what the plain function does. -/
namespace Go.Proofs.YtbmhmljbpjimoaaDoor
open Go.RowKit
set_option linter.unusedVariables false
set_option maxRecDepth 100000


theorem and_one (m : Nat) (h : m < 4294967296) : bits .and .u32 (m : Int) 1 = ((m % 2 : Nat) : Int) := by
  have := u32_and_nat m 1 h (by omega)
  rw [Nat.and_one_is_mod] at this
  exact this

theorem xor_poly (m : Nat) (h : m < 4294967296) : bits .xor .u32 (m : Int) 3988292384 = ((m ^^^ Crc.poly : Nat) : Int) :=
  u32_xor_nat m Crc.poly h Crc.poly_lt

set_option maxHeartbeats 400000 in
theorem eight_any (n : Nat) (w : World) (hn : n < 4294967296) :
    Calls Tryd.prog 76 #[.int .u32 n] w fun e w' => e = .returned (.int .u32 (Crc.steps 8 n : Nat)) ∧ w' = w := by
  go_enter Tryd.func76, Tryd.ntmps76
  go_wp2
  go_loop [0, 4] (fun x i => ∃ k : Nat, k ≤ 8 ∧ i = .int .i64 k ∧ x = .int .u32 (Crc.steps k n : Nat)) (fun _ i => 8 - (intOf i).toNat)
  case atStart => exact ⟨0, Nat.zero_le _, rfl, rfl⟩
  case round =>
    obtain ⟨k, hk, rfl, rfl⟩ := hrel
    have hm := Crc.steps_lt k hn
    by_cases hlt : k < 8
    · generalize hmm : Crc.steps k n = m at *
      have HM : Hid (Crc.steps k n = m) := hmm
      clear hmm
      have h1 := and_one m hm
      have hd : m / 2 < 4294967296 := by omega
      have h2 : bits .xor .u32 ((m : Int) / 2) 3988292384 = ((m / 2 ^^^ Crc.poly : Nat) : Int) := xor_poly (m / 2) hd
      have hs := Crc.steps_succ k n
      rw [HM.out] at hs
      rcases Nat.mod_two_eq_zero_or_one m with ho | ho
      · rw [ho] at h1
        rw [Crc.step_even ho] at hs
        have HS := hide hs
        clear hs ho
        go_wp2
        exact ⟨⟨k + 1, by omega, by go_num, by rw [unhide HS]; go_num⟩, by simp [intOf]; omega⟩
      · rw [ho] at h1
        rw [Crc.step_odd ho] at hs
        have HS := hide hs
        clear hs ho
        go_wp2
        exact ⟨⟨k + 1, by omega, by go_num, by rw [unhide HS]⟩, by simp [intOf]; omega⟩
    · have : k = 8 := by omega
      subst this
      go_wp2
      go_ret
      exact ⟨rfl, rfl⟩
end Go.Proofs.YtbmhmljbpjimoaaDoor
/- The contract of a Sum's Add and Value: the sum's cell holds behind the call what the plain function says; all other memory that was there is as it was. -/
namespace Go.Proofs.YtbmhmljbpjimoaaDoor
open Go.RowKit
set_option linter.unusedVariables false
set_option maxRecDepth 100000

theorem under9 : Tryd.prog.underlying 9 = some .string := by kernel_rfl
theorem under37 : Tryd.prog.underlying 46 = some (.slice 5) := by kernel_rfl
theorem under5 : Tryd.prog.underlying 5 = some (.int .u8) := by kernel_rfl

theorem not_u32 (n : Nat) (h : n < 4294967296) : bits .xor .u32 IntKind.u32.max (n : Int) = ((Crc.ones - n : Nat) : Int) := by
  have := u32_xor_nat 4294967295 n (by omega) h
  rw [show (4294967295 : Nat) ^^^ n = Crc.ones - n from Crc.ones_sub h] at this
  exact this

theorem xor_byte (n : Nat) (b : UInt8) (h : n < 4294967296) : bits .xor .u32 (n : Int) ((b.toNat : Int) % 4294967296) = ((n ^^^ b.toNat : Nat) : Int) := by
  have h2 := b.toNat_lt
  rw [show ((b.toNat : Int) % 4294967296) = (b.toNat : Int) from by omega]
  exact u32_xor_nat n b.toNat h (by omega)

theorem take_snoc (s : ByteArray) (k : Nat) (h : k < s.size) : s.data.toList.take (k + 1) = s.data.toList.take k ++ [s[k]] := by
  rw [List.take_succ_eq_append_getElem (by simpa using h)]; rfl

theorem feed_snoc (n : Nat) (s : ByteArray) (k : Nat) (h : k < s.size) : Crc.feed n (s.data.toList.take (k + 1)) = Crc.steps 8 (Crc.feed n (s.data.toList.take k) ^^^ s[k].toNat) := by
  rw [take_snoc s k h, Crc.feed_append]; rfl

theorem kbytes_cell (w : World) (s : ByteArray) (cap : Nat) (m : Nat × Nat) (k : Nat) (h : k < s.size) :
    (w.alloc (.cells (bytesRow s cap) 5 m)).cell? ⟨w.heap.size, k, none⟩ = some (.int .u8 (s[k].toNat : Int)) := by
  rw [World.cell?_alloc_mark, bytesRow_at s cap k h]; rfl

set_option maxHeartbeats 400000 in
theorem add_any (s : ByteArray) (b v : Nat) (w : World) (hs : s.size ≤ maxLen) (hb : b < w.heap.size) (hv : v < 4294967296)
    (hc : w.cell? ⟨b, 0, none⟩ = some (.int .u32 v)) (hf : w.frozen? ⟨b, 0, none⟩ = false) :
    Calls Tryd.prog 57 #[.pointer (some ⟨b, 0, none⟩), .string s] w fun e w' => e = .returned (.tuple #[]) ∧
      Below w.heap.size (w.setCell ⟨b, 0, none⟩ (.int .u32 (Crc.ones - Crc.feed (Crc.ones - v) s.data.toList : Nat))) w' := by
  unfold maxLen at hs
  have h1 := not_u32 v hv
  have kc := fun (wx : World) => run_bytes_of_string (P := Tryd.prog) wx 9 46 5 s under9 under37 under5
  have hov : Crc.ones - v < 4294967296 := by unfold Crc.ones; omega
  generalize hV : Crc.ones - v = V at *
  have HV := hide hV
  clear hV
  go_enter Tryd.func57, Tryd.ntmps57
  go_wp2
  clear kc
  go_loop [4, 15] (fun n i => ∃ k : Nat, k ≤ s.size ∧ i = .int .i64 k ∧ n = .int .u32 (Crc.feed V (s.data.toList.take k) : Nat)) (fun _ i => s.size - (intOf i).toNat)
  case atStart => exact ⟨0, Nat.zero_le _, rfl, rfl⟩
  case round =>
    obtain ⟨k, hk, rfl, rfl⟩ := hrel
    have hm := Crc.feed_lt (s.data.toList.take k) hov
    by_cases hlt : k < s.size
    · have HS := hide (feed_snoc V s k hlt)
      have hcell := kbytes_cell w s (grownCap w s.size 0 5) ((bytesRow s (grownCap w s.size 0 5)).size, (bytesRow s (grownCap w s.size 0 5)).size + 1) k hlt
      generalize Crc.feed V (s.data.toList.take k) = m at *
      have hx := xor_byte m s[k] hm
      have hxl : m ^^^ s[k].toNat < 4294967296 := Crc.xor_lt hm (by have := s[k].toNat_lt; omega)
      go_wp2_with (go_at_call 76; refine (eight_any _ _ hxl).mono ?_; rintro e w' ⟨rfl, rfl⟩)
      exact ⟨⟨k + 1, by omega, by go_num, by rw [unhide HS]⟩, by simp [intOf]; omega⟩
    · have : k = s.size := by omega
      subst this
      have e : s.data.toList.take s.size = s.data.toList := List.take_of_length_le (by simp)
      rw [e] at hm ⊢
      generalize hM : Crc.feed V s.data.toList = m at *
      have HM := hide hM
      clear hM
      have h2 := not_u32 m hm
      go_wp2
      go_end0
      rw [unhide HM]
      refine ⟨rfl, Below.drew (Below.alloc (Below.refl _ _) ?_ _)⟩
      simp

set_option maxHeartbeats 400000 in
theorem value_any (b v : Nat) (w : World) (hc : w.cell? ⟨b, 0, none⟩ = some (.int .u32 v)) :
    Calls Tryd.prog 58 #[.pointer (some ⟨b, 0, none⟩)] w fun e w' => e = .returned (.int .u32 v) ∧ w' = w := by
  go_enter Tryd.func58, Tryd.ntmps58
  go_wp2
  go_ret
  exact ⟨rfl, rfl⟩

/- The sum's cell in a world: where it is, that it may be written. -/
structure SumAt (w : World) (b v : Nat) : Prop where
  lt : b < w.heap.size
  cell : w.cell? ⟨b, 0, none⟩ = some (.int .u32 v)
  frozen : w.frozen? ⟨b, 0, none⟩ = false

theorem SumAt.put {w w' : World} {b v : Nat} (x : Nat) (h : SumAt w b v) (hb : Below w.heap.size (w.setCell ⟨b, 0, none⟩ (.int .u32 x)) w') : SumAt w' b x := by
  refine ⟨?_, ?_, ?_⟩
  · have := hb.size; have := h.lt; simp at *; omega
  · rw [hb.cell (p := ⟨b, 0, none⟩) h.lt, World.cell?_setCell_same _ _ _ h.cell]
  · rw [hb.frozen (p := ⟨b, 0, none⟩) h.lt, World.frozen?_setCell, h.frozen]
end Go.Proofs.YtbmhmljbpjimoaaDoor
/- The contract of crc.Of: the sum of all texts' bytes, one behind the other; nothing that was there has turned. -/
namespace Go.Proofs.YtbmhmljbpjimoaaDoor
open Go.RowKit
set_option linter.unusedVariables false
set_option maxRecDepth 100000

def kflat (l : List ByteArray) : List UInt8 := l.flatMap fun s => s.data.toList

theorem kflat_snoc (l : List ByteArray) (k : Nat) (h : k < l.length) : kflat (l.take (k + 1)) = kflat (l.take k) ++ l[k].data.toList := by
  rw [List.take_succ_eq_append_getElem h]; unfold kflat; rw [List.flatMap_append]; congr 1; simp

theorem crc_snoc (l : List ByteArray) (k : Nat) (h : k < l.length) :
    Crc.ones - Crc.feed (Crc.ones - Crc.crc (kflat (l.take k))) l[k].data.toList = Crc.crc (kflat (l.take (k + 1))) := by
  rw [kflat_snoc l k h]
  have h1 := Crc.feed_lt (n := Crc.ones) (kflat (l.take k)) (by unfold Crc.ones; omega)
  unfold Crc.crc
  rw [Crc.feed_append]
  congr 2
  unfold Crc.ones at *
  omega

set_option maxHeartbeats 400000 in
theorem of_some (l : List ByteArray) (sb so cap : Nat) (w : World) (hl : l.length ≤ maxLen) (hz : ∀ i (h : i < l.length), l[i].size ≤ maxLen)
    (hb : sb < w.heap.size) (hc : ∀ i (h : i < l.length), w.cell? ⟨sb, so + i, none⟩ = some (.string l[i])) :
    Calls Tryd.prog 44 #[.slice (some ⟨sb, so, none⟩) l.length cap] w fun e w' => e = .returned (.int .u32 (Crc.crc (kflat l) : Nat)) ∧ Below w.heap.size w w' := by
  have HC := hide hc
  have HZ := hide hz
  clear hc hz
  unfold maxLen at hl
  go_enter Tryd.func44, Tryd.ntmps44
  go_wp2
  go_loopw [10] (fun i wr => ∃ k : Nat, k ≤ l.length ∧ i = .int .i64 k ∧ Below w.heap.size w wr ∧ SumAt wr w.heap.size (Crc.crc (kflat (l.take k)))) (fun i _ => l.length - (intOf i).toNat)
  case atStart =>
    refine ⟨0, Nat.zero_le _, rfl, Below.alloc (Below.refl _ _) (Nat.le_refl _) _, ⟨by simp, ?_, ?_⟩⟩
    · simp [kflat, Crc.crc, Crc.feed]
    · simp
  case round =>
    obtain ⟨k, hk, rfl, hbw, hsum⟩ := hrel
    by_cases hlt : k < l.length
    · have hck := unhide HC k hlt
      rw [← hbw.cell (p := ⟨sb, so + k, none⟩) hb] at hck
      have HS := hide (crc_snoc l k hlt)
      have hzk := unhide HZ k hlt
      have hvl := Crc.crc_lt (kflat (l.take k))
      generalize Crc.crc (kflat (l.take k)) = v at *
      generalize l[k] = s at *
      go_wp2_with fail
      refine (add_any s w.heap.size v wr hzk hsum.lt hvl hsum.cell hsum.frozen).mono ?_
      rintro e w' ⟨rfl, hb2⟩
      have hs2 := hsum.put _ hb2
      rw [unhide HS] at hs2
      have hb3 : Below w.heap.size w w' := (hbw.setCell (p := ⟨w.heap.size, 0, none⟩) (Nat.le_refl _) _).trans (hb2.mono hbw.size)
      clear hb2 hbw hsum hck
      go_wp2
      exact ⟨⟨k + 1, by omega, by go_num, hb3, hs2⟩, by simp [intOf]; omega⟩
    · have : k = l.length := by omega
      subst this
      rw [List.take_length] at hsum
      go_wp2_with (go_at_call 58; refine (value_any _ _ _ hsum.cell).mono ?_; rintro e w' ⟨rfl, rfl⟩)
      go_ret
      exact ⟨rfl, hbw⟩

set_option maxHeartbeats 400000 in
theorem of_nil (w : World) :
    Calls Tryd.prog 44 #[.slice none 0 0] w fun e w' => e = .returned (.int .u32 (Crc.crc (kflat []) : Nat)) ∧ Below w.heap.size w w' := by
  go_enter Tryd.func44, Tryd.ntmps44
  go_wp2
  refine wp_loop_rounds 1 ?_
  rw [rounds_succ]
  go_wp2
  go_ret
  exact ⟨rfl, Below.alloc (Below.refl _ _) (Nat.le_refl _) _⟩

theorem flat_one (s : ByteArray) : kflat [s] = s.data.toList := by simp [kflat]

theorem of_one (s : ByteArray) (w : World) (hs : s.size ≤ maxLen) :
    Calls Tryd.prog 44 #[.slice (some ⟨w.heap.size, 0, none⟩) 1 1] (w.alloc (.cells #[.string s] 9)) fun e w' =>
      e = .returned (.int .u32 (Crc.crc s.data.toList : Nat)) ∧ Below w.heap.size w w' := by
  have h := of_some [s] w.heap.size 0 1 (w.alloc (.cells #[.string s] 9)) (by unfold maxLen; simp) (by intro i hi; simp at hi; subst hi; exact hs)
    (by simp) (by intro i hi; simp at hi; subst hi; simp)
  rw [flat_one] at h
  refine h.mono ?_
  rintro e w' ⟨rfl, hb⟩
  exact ⟨rfl, (Below.alloc (Below.refl _ _) (Nat.le_refl _) _).trans (hb.mono (by simp))⟩

theorem crc_known : Crc.crc [49, 50, 51, 52, 53, 54, 55, 56, 57] = 3421780262 := by decide +kernel

end Go.Proofs.YtbmhmljbpjimoaaDoor
/- The contracts of Cut and of the reference's sum: the reference's sum is the same plain function. -/
namespace Go.Proofs.YtbmhmljbpjimoaaDoor
open Go.RowKit
set_option linter.unusedVariables false
set_option maxRecDepth 100000

/- A round of the reference: the number and the byte, each halved. -/
theorem ref_step (n c : Nat) : ((if (n + c) % 2 = 1 then n / 2 ^^^ Crc.poly else n / 2) ^^^ c / 2) = Crc.step (n ^^^ c) := by
  have hm := Crc.xor_mod_two n c
  have hd := Crc.xor_div_two n c
  by_cases h : (n + c) % 2 = 1
  · rw [if_pos h, Crc.step_odd (by omega), hd, Nat.xor_assoc, Nat.xor_assoc, Nat.xor_comm Crc.poly]
  · rw [if_neg h, Crc.step_even (by omega), hd]

theorem four_back (w : World) (a b c d : Int) :
    (convert 46 9 (.slice (some ⟨w.heap.size, 0, none⟩) 4 4)).run Tryd.prog (w.alloc (.cells #[.int .u8 a, .int .u8 b, .int .u8 c, .int .u8 d] 5)) =
      .ok (.string (strOfNums [a, b, c, d])) (w.alloc (.cells #[.int .u8 a, .int .u8 b, .int .u8 c, .int .u8 d] 5)) := by
  refine run_convert_bytes_arg _ 46 5 under37 under5 w.heap.size 0 4 4 [a, b, c, d] rfl ?_ 9 under9
  intro i hi
  obtain rfl | rfl | rfl | rfl : i = 0 ∨ i = 1 ∨ i = 2 ∨ i = 3 := by omega
  all_goals simp

def four (n : Nat) : ByteArray := strOfNums [(n : Int) % 256, (n : Int) / 256 % 256, (n : Int) / 65536 % 256, (n : Int) / 16777216]

set_option maxHeartbeats 400000 in
theorem bytes_any (n : Nat) (w : World) (hn : n < 4294967296) :
    Calls Tryd.prog 43 #[.int .u32 n] w fun e w' => e = .returned (.string (four n)) ∧ Below w.heap.size w w' := by
  have kc := four_back w ((n : Int) % 256) ((n : Int) / 256 % 256) ((n : Int) / 65536 % 256) ((n : Int) / 16777216)
  go_enter Tryd.func43, Tryd.ntmps43
  go_wp2
  go_ret
  exact ⟨rfl, Below.alloc (Below.refl _ _) (Nat.le_refl _) _⟩

end Go.Proofs.YtbmhmljbpjimoaaDoor
