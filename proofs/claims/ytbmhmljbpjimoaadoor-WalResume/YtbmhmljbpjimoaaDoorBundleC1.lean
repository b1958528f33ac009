/- Texts that this proof needs, one behind the other: CBase, CMath, CInMath, CIn, CKeyMath, CShelf, COut, CKey, CIn2, COut2, COneMath, COne, CPutsMath, CAppend, CPuts. -/
import Derived.Test.YtbmhmljbpjimoaaDoorChecked
import Derived.WalkKit
import Derived.WalkSpells
import Derived.WalkLawsBesides
import Derived.Laws.BitsAllLaws
import Derived.Laws.IdiomStrings
import Derived.Laws.BytesArg
import Derived.RegionTactic
import Derived.Deep.RegionLaw
import Derived.Lib.ItoaNum
import Derived.Shelf.Strconv.Itoa0
import Derived.Test.YtbmhmljbpjimoaaDoorProg
import Derived.Laws.DeepNot64
import Derived.Deep.AppendSrc
/- Small facts that all contracts of codec use: facts kept from the walk, worlds that are otherwise in one block alone, an append to a row of the call's own as one step of a region that draws. -/
namespace Go.Proofs.YtbmhmljbpjimoaaDoor
open Go.RowKit
set_option linter.unusedVariables false
set_option maxRecDepth 100000

theorem hide {p : Prop} (h : p) : Hid p := h
theorem unhide {p : Prop} (h : Hid p) : p := h
theorem ret_int {k : IntKind} {a b : Int} (h : a = b) : Ending.returned (.int k a) = .returned (.int k b) := by rw [h]
theorem ret_bool {a b : Bool} (h : a = b) : Ending.returned (.bool a) = .returned (.bool b) := by rw [h]
theorem ret_string {a b : ByteArray} (h : a = b) : Ending.returned (.string a) = .returned (.string b) := by rw [h]
theorem plain_add (b off i : Nat) : (⟨b, off, none⟩ : Addr).add i = ⟨b, off + i, none⟩ := by unfold Addr.add; split <;> simp_all

theorem under_string : Tryd.prog.underlying 9 = some .string := by kernel_rfl
theorem under_bytes : Tryd.prog.underlying 46 = some (.slice 5) := by kernel_rfl
theorem under_byte : Tryd.prog.underlying 5 = some (.int .u8) := by kernel_rfl
theorem info_byte : (Tryd.prog.info? 5).map (fun i => (i.zero, i.size, i.bytes)) = some (some (.int .u8 0), 1, 1) := by kernel_rfl

/- A string of bytes. -/
def S (l : List UInt8) : ByteArray := ⟨l.toArray⟩
theorem S_toList (l : List UInt8) : (S l).data.toList = l := rfl
theorem S_size (l : List UInt8) : (S l).size = l.length := rfl
theorem S_eta (s : ByteArray) : S s.data.toList = s := rfl
theorem S_inj {a b : List UInt8} (h : S a = S b) : a = b := by
  have := congrArg (fun s : ByteArray => s.data.toList) h
  exact this

theorem cell_lt {w : World} {b o : Nat} {v : Value} (h : w.cell? ⟨b, o, none⟩ = some v) : b < w.heap.size := by
  rcases Nat.lt_or_ge b w.heap.size with h1 | h1
  · exact h1
  · simp [World.cell?, Array.getElem?_eq_none h1] at h

/- Of the blocks below B, block b alone may be otherwise. -/
structure But (b B : Nat) (w w' : World) : Prop where
  os : w'.os = w.os
  tape : w'.tape = w.tape
  output : w'.output = w.output
  size : w.heap.size ≤ w'.heap.size
  block : ∀ k, k < B → k ≠ b → w'.heap[k]? = w.heap[k]?

theorem But.refl (b B : Nat) (w : World) : But b B w w := ⟨rfl, rfl, rfl, Nat.le_refl _, fun _ _ _ => rfl⟩
theorem But.trans {b B : Nat} {u v w : World} (h : But b B u v) (k : But b B v w) : But b B u w :=
  ⟨k.os.trans h.os, k.tape.trans h.tape, k.output.trans h.output, Nat.le_trans h.size k.size, fun i hi hb => (k.block i hi hb).trans (h.block i hi hb)⟩
theorem But.mono {b B B' : Nat} {u v : World} (h : But b B u v) (hB : B' ≤ B) : But b B' u v := ⟨h.os, h.tape, h.output, h.size, fun k hk => h.block k (by omega)⟩
theorem But.of_below {b B : Nat} {w w' : World} (h : Below B w w') : But b B w w' := ⟨h.os, h.tape, h.output, h.size, fun k hk _ => h.block k hk⟩
theorem But.setCell {b B : Nat} {u w : World} (h : But b B u w) (o : Nat) (x : Value) : But b B u (w.setCell ⟨b, o, none⟩ x) :=
  h.trans ⟨rfl, rfl, rfl, by simp [World.setCell], fun k hk hb => Below.heap_setCell _ _ _ _ hb⟩
theorem But.drew {b B : Nat} {u w : World} (h : But b B u w) : But b B u w.drew := ⟨h.os, h.tape, h.output, h.size, h.block⟩
theorem But.alloc {b B : Nat} {u w : World} (h : But b B u w) (hB : B ≤ w.heap.size) (o : Obj) : But b B u (w.alloc o) :=
  h.trans (But.of_below ((Below.refl _ _).alloc hB o))
theorem But.below {b B B' : Nat} {w w' : World} (h : But b B w w') (h1 : B' ≤ b) (h2 : B' ≤ B) : Below B' w w' :=
  ⟨h.os, h.tape, h.output, h.size, fun k hk => h.block k (by omega) (by omega)⟩
theorem But.cell {b B : Nat} {w w' : World} (h : But b B w w') {p : Addr} (hp : p.block < B) (hb : p.block ≠ b) : w'.cell? p = w.cell? p := World.cell?_of_block (w := w) (h.block p.block hp hb)
theorem But.frozen {b B : Nat} {w w' : World} (h : But b B w w') {p : Addr} (hp : p.block < B) (hb : p.block ≠ b) : w'.frozen? p = w.frozen? p := World.frozen?_of_block (w := w) (h.block p.block hp hb)

theorem ownsRow_below {w w' : World} {base : Nat} {e : TypeId} {size : Nat} {v : Value} {n : Nat} {xs : List Value} (h : w.ownsRow base e size v n xs) (hb : Below w.heap.size w w') : w'.ownsRow base e size v n xs := by
  obtain ⟨h1, h2⟩ := h
  refine ⟨h1, ?_⟩
  rcases h2 with h2 | ⟨g, cap, cur, hv, hg, hh, r⟩
  · exact Or.inl h2
  · have hlt : g < w.heap.size := by
      rcases Nat.lt_or_ge g w.heap.size with h | h
      · exact h
      · simp [Array.getElem?_eq_none h] at hh
    exact Or.inr ⟨g, cap, cur, hv, hg, by rw [hb.block g hlt]; exact hh, r⟩

theorem ownsRow_less {w : World} {base base' : Nat} {e : TypeId} {size : Nat} {v : Value} {n : Nat} {xs : List Value} (h : w.ownsRow base e size v n xs) (hb : base' ≤ base) : w.ownsRow base' e size v n xs := by
  obtain ⟨h1, h2⟩ := h
  refine ⟨h1, ?_⟩
  rcases h2 with h2 | ⟨g, cap, cur, hv, hg, r⟩
  · exact Or.inl h2
  · exact Or.inr ⟨g, cap, cur, hv, by omega, r⟩

theorem ownsRow_slice {w : World} {base : Nat} {e : TypeId} {size : Nat} {v : Value} {n : Nat} {xs : List Value} (h : w.ownsRow base e size v n xs) : ∃ ao c, v = .slice ao n c ∧ (n ≠ 0 → ∃ g, ao = some ⟨g, 0, none⟩) := by
  rcases h.2 with ⟨rfl, rfl⟩ | ⟨g, cap, cur, rfl, _⟩
  · exact ⟨none, 0, rfl, fun h => absurd rfl h⟩
  · exact ⟨some ⟨g, 0, none⟩, cap, rfl, fun _ => ⟨g, rfl⟩⟩

/- An append to a row of the call's own; where the row is a new one behind it, it is new memory. -/
theorem run_append_fresh {P : Program} (w : World) (base : Nat) (t ty e : TypeId) (i : TypeInfo) (z : Value) (size bytes : Nat) (ht : P.underlying t = some (.slice e)) (hi : P.info? e = some i) (hz : i.zero = some z)
    (hsize : i.size = size) (hby : i.bytes = bytes) (hzs : z.cells.size = size) (hsz : 0 < size)
    (v : Value) (n : Nat) (xs : List Value) (hown : w.ownsRow base e size v n xs)
    (a : Addr) (m c : Nat) (news : List Value) (hl : news.length = m * size) (hnews : ∀ j u, news[j]? = some u → w.cell? (a.add j) = some u) (h1 : ∀ u ∈ news, u.oneCell' = true)
    (h63 : n + m ≤ maxLen) (hbytes : (n + m) * bytes ≤ 140737488355328) (hbase : base ≤ w.heap.size) :
    ∃ v' w', (Builtin.append_ #[t, t] ty #[v, .slice (some a) m c]).run P w = .ok v' w' ∧ w'.ownsRow base e size v' (n + m) (xs ++ news) ∧ w.grownBy w' v.ownBlock ∧
      (v'.ownBlock = v.ownBlock ∨ ∀ k, v'.ownBlock = some k → w.heap.size ≤ k) := by
  obtain ⟨v', w', hrun, r1, r2, _⟩ := run_append_own (P := P) w base t ty e i z size bytes ht hi hz hsize hby hzs hsz v n xs hown a m c news hl hnews h1 h63 hbytes hbase
  refine ⟨v', w', hrun, r1, r2, ?_⟩
  rcases hown.2 with ⟨rfl, rfl⟩ | ⟨g, cap, cur, rfl, hbg, hg, hnc, hcm, hcs, htake⟩
  · right
    have hx : xs = [] := List.eq_nil_of_length_eq_zero (by simpa using hown.1)
    subst hx
    obtain ⟨v2, w2, hrun2, s1, _, _⟩ := run_append_own (P := P) w w.heap.size t ty e i z size bytes ht hi hz hsize hby hzs hsz (.slice none 0 0) 0 [] (World.ownsRow_nil _ _ _ _) a m c news hl hnews h1 h63 hbytes (Nat.le_refl _)
    rw [hrun] at hrun2
    injection hrun2 with e1 e2
    subst e1
    intro k hk
    exact (s1.lt k hk).1
  · by_cases hroom : n + m ≤ cap
    · left
      have hr := run_append_room (P := P) w t ty e i ht hi g n cap cur hg a m c news (by rw [hsize]; exact hl) hnews h1 hroom (by rw [hl, hcs, hsize, ← Nat.add_mul]; exact Nat.mul_le_mul_right _ hroom)
      rw [hrun] at hr
      injection hr with e1 e2
      subst e1
      rfl
    · right
      obtain ⟨v2, w2, hrun2, s1, _⟩ := run_append_arg_grows (P := P) w t ty e i z size bytes ht hi hz hsize hby hzs hsz ⟨g, 0, none⟩ n cap xs hown.1 (hown.cells (g := g) rfl) a m c news hl hnews (by omega) h63 hbytes
      rw [hrun] at hrun2
      injection hrun2 with e1 e2
      subst e1
      intro k hk
      exact (s1.lt k hk).1

/- The same as one operation of a plain region. -/
theorem wpList_append_fresh {P : Program} {w : World} {ops : Array Oper} {rest : List Oper} {o : Oper} {a : Act} {Q : Exit → Act → World → Prop} (hgd : o.guard = none) (s x : Operand) (t : TypeId)
    (ho : o.op = .call { callee := .builtin .append, args := #[s, x], argTypes := #[t, t] })
    (base : Nat) (e : TypeId) (i : TypeInfo) (z : Value) (size bytes : Nat) (ht : P.underlying t = some (.slice e)) (hi : P.info? e = some i) (hz : i.zero = some z)
    (hsize : i.size = size) (hby : i.bytes = bytes) (hzs : z.cells.size = size) (hsz : 0 < size)
    (v : Value) (n : Nat) (xs : List Value) (hs : a.eval s = v) (hown : w.ownsRow base e size v n xs)
    (ad : Addr) (m c : Nat) (news : List Value) (hx : a.eval x = .slice (some ad) m c) (hl : news.length = m * size) (hnews : ∀ j u, news[j]? = some u → w.cell? (ad.add j) = some u) (h1 : ∀ u ∈ news, u.oneCell' = true)
    (h63 : n + m ≤ maxLen) (hbytes : (n + m) * bytes ≤ 140737488355328) (hbase : base ≤ w.heap.size)
    (h : ∀ v' w', w'.ownsRow base e size v' (n + m) (xs ++ news) → w.grownBy w' v.ownBlock → (v'.ownBlock = v.ownBlock ∨ ∀ k, v'.ownBlock = some k → w.heap.size ≤ k) → wpList P ops Q rest (a.put o.dst v') w') : wpList P ops Q (o :: rest) a w := by
  refine wpList_plain hgd fun K hK => ?_
  obtain ⟨v', w', hr, h2, h3, h4⟩ := run_append_fresh (P := P) w base t o.type e i z size bytes ht hi hz hsize hby hzs hsz v n xs hown ad m c news hl hnews h1 h63 hbytes hbase
  unfold Oper.wp execOp
  simp only [ho, resolve, invoke, builtin, Sem.run_bind, Sem.run_pure, Result.andThen_ok, List.map_toArray, List.map_cons, List.map_nil, hs, hx, hr]
  exact hK _ _ (h v' w' h2 h3 h4)

/- The same as one step of a region that draws. -/
theorem step_append_fresh {P : Program} {ops : Array Oper} {o : Oper} {a : Act} {w : World} {K : Act → World → Prop} {Q : Exit → Act → World → Prop} {E : Prop}
    (hg : o.guard = none) (s x : Operand) (t : TypeId) (hop : o.op = Op.call { callee := Callee.builtin Builtin.append, args := #[s, x], argTypes := #[t, t] })
    (base : Nat) (e : TypeId) (i : TypeInfo) (z : Value) (size bytes : Nat) (h1 : P.underlying t = some (.slice e)) (h2 : P.info? e = some i) (h3 : i.zero = some z) (h4 : i.size = size) (h5 : i.bytes = bytes) (h6 : z.cells.size = size) (h7 : 0 < size)
    (v : Value) (n : Nat) (xs : List Value) (hs : a.eval s = v) (hown : w.ownsRow base e size v n xs)
    (ad : Addr) (m c : Nat) (news : List Value) (hx : a.eval x = .slice (some ad) m c) (hn : news.length = m * size) (hc : ∀ j u, news[j]? = some u → w.cell? (ad.add j) = some u) (h1c : ∀ u ∈ news, u.oneCell' = true)
    (b1 : n + m ≤ maxLen) (b2 : (n + m) * bytes ≤ 140737488355328) (hbase : base ≤ w.heap.size)
    (hK : ∀ v' w', w'.ownsRow base e size v' (n + m) (xs ++ news) → w.grownBy w' v.ownBlock → (v'.ownBlock = v.ownBlock ∨ ∀ k, v'.ownBlock = some k → w.heap.size ≤ k) → K (a.put o.dst v') w') :
    if Region.wanted o (yielded ops a.tmps) = true then Oper.wp P o a w K Q else E := by
  have hw : Region.wanted o (yielded ops a.tmps) = true := by simp [Region.wanted, hg]
  rw [if_pos hw]
  obtain ⟨v', w', hrun, r1, r2, r3⟩ := run_append_fresh (P := P) w base t o.type e i z size bytes h1 h2 h3 h4 h5 h6 h7 v n xs hown ad m c news hn hc h1c b1 b2 hbase
  unfold Oper.wp
  simp [execOp, hop, resolve, invoke, builtin, hs, hx, hrun, Result.andThen]
  exact hK v' w' r1 r2 r3

end Go.Proofs.YtbmhmljbpjimoaaDoor
/- Plain mathematics of codec's numbers: how many bytes a number has, these bytes, the number that bytes make. No program is named here. -/
namespace Codec
open Go

def blen (n : Nat) : Nat := (Lib.bitLen n + 7) / 8
/- The k lowest bytes of n, the highest first. -/
def be (k n : Nat) : List UInt8 := (List.range k).map fun j => UInt8.ofNat (n / 256 ^ (k - 1 - j) % 256)
def enc (n : Nat) : List UInt8 := UInt8.ofNat (blen n) :: be (blen n) n
def val (l : List UInt8) : Nat := l.foldl (fun a b => a * 256 + b.toNat) 0

theorem be_length (k n : Nat) : (be k n).length = k := by simp [be]
theorem be_zero (n : Nat) : be 0 n = [] := rfl
theorem be_cons (k n : Nat) : be (k + 1) n = UInt8.ofNat (n / 256 ^ k % 256) :: be k n := by
  unfold be
  rw [List.range_succ_eq_map, List.map_cons, List.map_map]
  congr 1
  apply List.map_congr_left
  intro j hj
  simp only [Function.comp]
  congr 3
  simp at hj
  congr 1
  omega
theorem be_take (k n j : Nat) (h : j < k) : (be k n).take (j + 1) = (be k n).take j ++ [UInt8.ofNat (n / 256 ^ (k - 1 - j) % 256)] := by
  rw [List.take_succ_eq_append_getElem (by rw [be_length]; exact h)]
  simp [be]

theorem byte_of (n : Nat) : (UInt8.ofNat (n % 256)).toNat = n % 256 := by rw [UInt8.toNat_ofNat']; omega

theorem val_fold (l : List UInt8) (a : Nat) : l.foldl (fun a b => a * 256 + b.toNat) a = a * 256 ^ l.length + val l := by
  induction l generalizing a with
  | nil => simp [val]
  | cons b l ih =>
    have e : val (b :: l) = b.toNat * 256 ^ l.length + val l := by
      show List.foldl (fun a b => a * 256 + b.toNat) (0 * 256 + b.toNat) l = _
      rw [ih, Nat.zero_mul, Nat.zero_add]
    rw [List.foldl_cons, ih, e, List.length_cons, Nat.pow_succ, Nat.add_mul, Nat.mul_assoc, Nat.mul_comm 256, Nat.add_assoc]
theorem val_cons (b : UInt8) (l : List UInt8) : val (b :: l) = b.toNat * 256 ^ l.length + val l := by
  rw [val, List.foldl_cons, val_fold, Nat.zero_mul, Nat.zero_add]
theorem val_snoc (l : List UInt8) (b : UInt8) : val (l ++ [b]) = val l * 256 + b.toNat := by simp [val]
theorem val_lt (l : List UInt8) : val l < 256 ^ l.length := by
  induction l with
  | nil => simp [val]
  | cons b l ih =>
    rw [val_cons, List.length_cons, Nat.pow_succ]
    have hb := b.toNat_lt
    have : b.toNat * 256 ^ l.length + 256 ^ l.length ≤ 256 ^ l.length * 256 := by
      rw [← Nat.succ_mul, Nat.mul_comm]
      exact Nat.mul_le_mul_left _ (by omega)
    omega
theorem val_be (k n : Nat) : val (be k n) = n % 256 ^ k := by
  induction k with
  | zero => simp [be_zero, val, Nat.mod_one]
  | succ k ih =>
    rw [be_cons, val_cons, be_length, ih, byte_of]
    rw [Nat.pow_succ, Nat.mod_mul, Nat.mul_comm, Nat.add_comm]

theorem bitLen_zero : Lib.bitLen 0 = 0 := by decide
theorem bitLen_bounds (n : Nat) (h : n < 18446744073709551616) (h0 : n ≠ 0) : 1 ≤ Lib.bitLen n ∧ 2 ^ (Lib.bitLen n - 1) ≤ n ∧ n < 2 ^ Lib.bitLen n :=
  Lib.bitLenAux_bounds 64 n h h0
theorem bitLen_le64 (n : Nat) (h : n < 18446744073709551616) : Lib.bitLen n ≤ 64 := Lib.bitLen_le n 64 (Nat.le_refl _) h
theorem blen_zero : blen 0 = 0 := by decide
theorem blen_le (n : Nat) (h : n < 18446744073709551616) : blen n ≤ 8 := by
  have := bitLen_le64 n h
  unfold blen; omega
theorem pow256 (k : Nat) : 256 ^ k = 2 ^ (8 * k) := by rw [show 256 = 2 ^ 8 by decide, ← Nat.pow_mul]
theorem blen_lt (n : Nat) (h : n < 18446744073709551616) : n < 256 ^ blen n := by
  by_cases h0 : n = 0
  · subst h0; rw [blen_zero]; decide
  · have hb := bitLen_bounds n h h0
    rw [pow256]
    refine Nat.lt_of_lt_of_le hb.2.2 (Nat.pow_le_pow_right (by decide) ?_)
    unfold blen; omega
theorem blen_ge (n : Nat) (h : n < 18446744073709551616) (h0 : n ≠ 0) : 1 ≤ blen n ∧ 256 ^ (blen n - 1) ≤ n := by
  have hb := bitLen_bounds n h h0
  refine ⟨by unfold blen; omega, ?_⟩
  rw [pow256]
  refine Nat.le_trans (Nat.pow_le_pow_right (by decide) ?_) hb.2.1
  unfold blen; omega
/- There is something left behind i bytes just as long as i is below how many there are. -/
theorem left_iff (n i : Nat) (h : n < 18446744073709551616) : 0 < n / 256 ^ i ↔ i < blen n := by
  constructor
  · intro hp
    rcases Nat.lt_or_ge i (blen n) with h1 | h1
    · exact h1
    · exfalso
      have := blen_lt n h
      have : n < 256 ^ i := Nat.lt_of_lt_of_le this (Nat.pow_le_pow_right (by decide) h1)
      rw [Nat.div_eq_of_lt this] at hp
      omega
  · intro hi
    have h0 : n ≠ 0 := by intro e; subst e; rw [blen_zero] at hi; omega
    have hg := blen_ge n h h0
    apply Nat.div_pos _ (Nat.pow_pos (by decide))
    exact Nat.le_trans (Nat.pow_le_pow_right (by decide) (by omega)) hg.2
theorem val_be_blen (n : Nat) (h : n < 18446744073709551616) : val (be (blen n) n) = n := by
  rw [val_be, Nat.mod_eq_of_lt (blen_lt n h)]
theorem enc_length (n : Nat) : (enc n).length = blen n + 1 := by simp [enc, be_length]

end Codec
/- Plain functions of an In: what is left and the error's number; what each call answers and leaves. No program is named here. -/
namespace Codec

abbrev St : Type := List UInt8 × Int
def fail (c : Int) (s : St) : St := if s.2 = 0 ∧ c ≠ 0 then ([], c) else s
def take (n : Nat) (s : St) : List UInt8 × St := if n ≤ s.1.length then (s.1.take n, (s.1.drop n, s.2)) else ([], fail 1 s)
def size (s : St) : Nat × St :=
  match (take 1 s).1 with
  | [] => (0, (take 1 s).2)
  | k :: _ => if 8 < k.toNat then (0, fail 2 (take 1 s).2) else (k.toNat, (take 1 s).2)
def digits (s : St) : List UInt8 × St := take (size s).1 (size s).2
def takeU (s : St) : Nat × St :=
  match (digits s).1 with
  | [] => (0, (digits s).2)
  | c :: _ => if c.toNat = 0 then (0, fail 2 (digits s).2) else (val (digits s).1, (digits s).2)

theorem size_le (s : St) : (size s).1 ≤ 8 := by
  unfold size
  split
  · exact Nat.zero_le _
  · split
    · exact Nat.zero_le _
    · simp; omega
theorem fail_length (c : Int) (s : St) : (fail c s).1.length ≤ s.1.length := by
  unfold fail; split
  · simp
  · exact Nat.le_refl _
theorem take_length (n : Nat) (s : St) : (take n s).1.length ≤ n ∧ (take n s).2.1.length ≤ s.1.length := by
  unfold take; split
  · simp; omega
  · exact ⟨by simp, fail_length 1 s⟩
theorem size_length (s : St) : (size s).2.1.length ≤ s.1.length := by
  have h := (take_length 1 s).2
  unfold size
  split
  · exact h
  · split
    · exact Nat.le_trans (fail_length 2 _) h
    · exact h
theorem digits_length (s : St) : (digits s).1.length ≤ 8 ∧ (digits s).2.1.length ≤ s.1.length := by
  have h1 := take_length (size s).1 (size s).2
  have h2 := size_le s
  have h3 := size_length s
  unfold digits
  exact ⟨by omega, by omega⟩
theorem takeU_length (s : St) : (takeU s).2.1.length ≤ s.1.length := by
  have h := (digits_length s).2
  unfold takeU
  split
  · exact h
  · split
    · exact Nat.le_trans (fail_length 2 _) h
    · exact h
theorem takeU_lt (s : St) : (takeU s).1 < 18446744073709551616 := by
  unfold takeU
  split
  · show 0 < 18446744073709551616
    decide
  · split
    · show 0 < 18446744073709551616
      decide
    · have h1 := val_lt (digits s).1
      have h2 := (digits_length s).1
      exact Nat.lt_of_lt_of_le h1 (Nat.le_trans (Nat.pow_le_pow_right (by decide) h2) (by decide))

/- A whole number out of a number. -/
def unfold (n : Nat) : Int := if n % 2 = 1 then -((n / 2 : Nat) : Int) - 1 else ((n / 2 : Nat) : Int)
def takeI (s : St) : Int × St := (unfold (takeU s).1, (takeU s).2)
def takeN (m : Int) (s : St) : Nat × St := if (takeU s).1 ≤ (max m 0).toNat then takeU s else (0, fail 3 (takeU s).2)
def takeS (m : Int) (s : St) : List UInt8 × St := take (takeN m s).1 (takeN m s).2
def endOf (s : St) : St := if 0 < s.1.length then fail 2 s else s

theorem unfold_bounds (n : Nat) (h : n < 18446744073709551616) : -9223372036854775808 ≤ unfold n ∧ unfold n ≤ 9223372036854775807 := by
  unfold unfold
  split <;> omega
theorem takeN_le (m : Int) (s : St) (hm : m ≤ 9223372036854775807) : (takeN m s).1 ≤ 9223372036854775807 := by
  unfold takeN
  split
  · omega
  · exact Nat.zero_le _

end Codec
/- The contracts of an In: what each call answers and leaves, by the plain functions. -/
namespace Go.Proofs.YtbmhmljbpjimoaaDoor
open Go.RowKit
set_option linter.unusedVariables false
set_option maxRecDepth 100000

structure InAt (w : World) (b : Nat) (s : Codec.St) : Prop where
  lt : b < w.heap.size
  c0 : w.cell? ⟨b, 0, none⟩ = some (.string (S s.1))
  c1 : w.cell? ⟨b, 1, none⟩ = some (.int .i64 s.2)
  f0 : w.frozen? ⟨b, 0, none⟩ = false
  f1 : w.frozen? ⟨b, 1, none⟩ = false
  len : s.1.length ≤ 1099511627776

theorem InAt.set0 {w : World} {b : Nat} {s : Codec.St} (h : InAt w b s) (l : List UInt8) (hl : l.length ≤ s.1.length) : InAt (w.setCell ⟨b, 0, none⟩ (.string (S l))) b (l, s.2) :=
  ⟨by simpa using h.lt, by rw [World.cell?_setCell_same _ _ _ h.c0], by rw [World.cell?_setCell_other _ _ _ _ (by simp)]; exact h.c1, by rw [World.frozen?_setCell]; exact h.f0, by rw [World.frozen?_setCell]; exact h.f1, by have := h.len; simp only; omega⟩
theorem InAt.set1 {w : World} {b : Nat} {s : Codec.St} (h : InAt w b s) (e : Int) : InAt (w.setCell ⟨b, 1, none⟩ (.int .i64 e)) b (s.1, e) :=
  ⟨by simpa using h.lt, by rw [World.cell?_setCell_other _ _ _ _ (by simp)]; exact h.c0, by rw [World.cell?_setCell_same _ _ _ h.c1], by rw [World.frozen?_setCell]; exact h.f0, by rw [World.frozen?_setCell]; exact h.f1, h.len⟩
theorem InAt.later {w w' : World} {b : Nat} {s : Codec.St} (h : InAt w b s) (hb : Below w.heap.size w w') : InAt w' b s :=
  ⟨by have := h.lt; have := hb.size; omega, by rw [hb.cell (p := ⟨b, 0, none⟩) h.lt]; exact h.c0, by rw [hb.cell (p := ⟨b, 1, none⟩) h.lt]; exact h.c1, by rw [hb.frozen (p := ⟨b, 0, none⟩) h.lt]; exact h.f0, by rw [hb.frozen (p := ⟨b, 1, none⟩) h.lt]; exact h.f1, h.len⟩

theorem S_take (l : List UInt8) (n : Nat) : (S l).extract 0 n = S (l.take n) := by
  apply ByteArray.ext
  simp [S]
theorem S_drop (l : List UInt8) (n : Nat) : (S l).extract n (S l).size = S (l.drop n) := by
  apply ByteArray.ext
  simp [S, ByteArray.size]
  exact List.take_of_length_le (by simp)
theorem S_list (l : List UInt8) : (S l).toList = l := ByteArray.toList_eq (S l)

set_option maxHeartbeats 400000 in
theorem fail_any (b : Nat) (c : Int) (s : Codec.St) (w : World) (h : InAt w b s) :
    Calls Tryd.prog 61 #[.pointer (some ⟨b, 0, none⟩), .int .i64 c] w fun e w' => e = .returned (.tuple #[]) ∧ InAt w' b (Codec.fail c s) ∧ But b w.heap.size w w' := by
  obtain ⟨l, er⟩ := s
  have c0 := h.c0
  have c1 := h.c1
  have f0 := h.f0
  have f1 := h.f1
  simp only at c0 c1
  have HH := hide h
  clear h
  by_cases h1 : er = 0
  · by_cases h2 : c = 0
    · subst h1 h2
      go_enter Tryd.func61, Tryd.ntmps61
      go_wp2
      go_end0
      exact ⟨rfl, unhide HH, But.refl _ _ _⟩
    · subst h1
      have e2 : (c != 0) = true := by rw [bne_iff_ne]; exact h2
      have hf : Codec.fail c (l, 0) = ([], c) := by simp [Codec.fail, h2]
      rw [hf]
      clear hf h2
      go_enter Tryd.func61, Tryd.ntmps61
      go_wp2
      go_end0
      refine ⟨rfl, ((unhide HH).set1 c).set0 [] (by simp), ((But.refl _ _ _).setCell 1 _).setCell 0 _⟩
  · have e1 : (er == 0) = false := by rw [beq_eq_false_iff_ne]; exact h1
    have hf : Codec.fail c (l, er) = (l, er) := by simp [Codec.fail, h1]
    rw [hf]
    clear hf h1
    go_enter Tryd.func61, Tryd.ntmps61
    go_wp2
    go_end0
    exact ⟨rfl, unhide HH, But.refl _ _ _⟩

set_option maxHeartbeats 400000 in
theorem take_any (b n : Nat) (s : Codec.St) (w : World) (h : InAt w b s) :
    Calls Tryd.prog 62 #[.pointer (some ⟨b, 0, none⟩), .int .i64 n] w fun e w' => e = .returned (.string (S (Codec.take n s).1)) ∧ InAt w' b (Codec.take n s).2 ∧ But b w.heap.size w w' := by
  obtain ⟨l, er⟩ := s
  have c0 := h.c0
  have f0 := h.f0
  have hlen := h.len
  simp only at c0 hlen
  have hsz : (S l).size = l.length := S_size l
  have HH := hide h
  clear h
  by_cases hn : n ≤ l.length
  · have e : Codec.take n (l, er) = (l.take n, (l.drop n, er)) := by simp [Codec.take, hn]
    rw [e]
    clear e
    have ht := S_take l n
    have hd := S_drop l n
    rw [hsz] at hd
    go_enter Tryd.func62, Tryd.ntmps62
    go_wp2
    go_ret
    exact ⟨rfl, (unhide HH).set0 (l.drop n) (by simp), (But.refl _ _ _).setCell 0 _⟩
  · have e : Codec.take n (l, er) = ([], Codec.fail 1 (l, er)) := by simp [Codec.take, hn]
    rw [e]
    have HF := hide (fail_any b 1 (l, er) w (unhide HH))
    clear e
    go_enter Tryd.func62, Tryd.ntmps62
    go_wp2_with fail
    refine (unhide HF).mono ?_
    rintro e w' ⟨rfl, hin, hbut⟩
    go_wp2
    go_ret
    exact ⟨rfl, hin, hbut⟩

theorem S_isEmpty (l : List UInt8) : (S l).toList.isEmpty = l.isEmpty := by rw [S_list]

set_option maxHeartbeats 400000 in
theorem size_any (b : Nat) (s : Codec.St) (w : World) (h : InAt w b s) :
    Calls Tryd.prog 77 #[.pointer (some ⟨b, 0, none⟩)] w fun e w' => e = .returned (.int .i64 ((Codec.size s).1 : Nat)) ∧ InAt w' b (Codec.size s).2 ∧ But b w.heap.size w w' := by
  have HT := hide (take_any b 1 s w h)
  have hsp : Codec.size s = match (Codec.take 1 s).1 with
    | [] => (0, (Codec.take 1 s).2)
    | k :: _ => if 8 < k.toNat then (0, Codec.fail 2 (Codec.take 1 s).2) else (k.toNat, (Codec.take 1 s).2) := rfl
  rw [hsp]
  have hl1 := (Codec.take_length 1 s).1
  clear hsp h
  generalize Codec.take 1 s = p at *
  obtain ⟨f, st⟩ := p
  simp only at HT hl1 ⊢
  match f, hl1 with
  | [], _ =>
    go_enter Tryd.func77, Tryd.ntmps77
    go_wp2_with fail
    refine (unhide HT).mono ?_
    rintro e w1 ⟨rfl, hin, hbut⟩
    have he : (S []).toList.isEmpty = true := S_isEmpty []
    go_wp2
    go_ret
    exact ⟨rfl, hin, hbut⟩
  | k :: [], _ =>
    have he : (S [k]).toList.isEmpty = false := S_isEmpty [k]
    have hsz : (S [k]).size = 1 := rfl
    have h0 : ∀ h, (S [k])[0]'h = k := fun h => rfl
    by_cases hk : 8 < k.toNat
    · dsimp only
      rw [if_pos hk]
      go_enter Tryd.func77, Tryd.ntmps77
      go_wp2_with fail
      refine (unhide HT).mono ?_
      rintro e w1 ⟨rfl, hin, hbut⟩
      have HF := hide (fail_any b 2 st w1 hin)
      go_wp2_with fail
      refine (unhide HF).mono ?_
      rintro e w2 ⟨rfl, hin2, hbut2⟩
      go_wp2
      go_ret
      exact ⟨rfl, hin2, hbut.trans (hbut2.mono hbut.size)⟩
    · dsimp only
      rw [if_neg hk]
      go_enter Tryd.func77, Tryd.ntmps77
      go_wp2_with fail
      refine (unhide HT).mono ?_
      rintro e w1 ⟨rfl, hin, hbut⟩
      go_wp2
      go_ret
      exact ⟨rfl, hin, hbut⟩

theorem shl_or (n : Nat) (b : UInt8) (h : n < 72057594037927936) : bits .or .u64 ((n : Int) * 256) (IntKind.u64.wrap (b.toNat : Int)) = ((n * 256 + b.toNat : Nat) : Int) := by
  have hb := b.toNat_lt
  rw [show IntKind.u64.wrap (b.toNat : Int) = (b.toNat : Int) from by rw [IntKind.wrap_u64]; omega]
  have e := u64_or_nat (n * 256) b.toNat (by omega) (by omega)
  rw [nat_join 8 (n * 256) b.toNat (by omega) (by omega)] at e
  rw [← e]
  simp

theorem val_take (d : List UInt8) (k : Nat) (h : k < d.length) : Codec.val (d.take (k + 1)) = Codec.val (d.take k) * 256 + (d[k]).toNat := by
  rw [List.take_succ_eq_append_getElem h, Codec.val_snoc]

theorem val_small (d : List UInt8) (k : Nat) (hd : d.length ≤ 8) (hk : k < d.length) : Codec.val (d.take k) < 72057594037927936 := by
  have h1 := Codec.val_lt (d.take k)
  have h2 : (d.take k).length ≤ 7 := by simp; omega
  exact Nat.lt_of_lt_of_le h1 (Nat.le_trans (Nat.pow_le_pow_right (by decide) h2) (by decide))

theorem bytes_cell (w : World) (s : ByteArray) (cap : Nat) (m : Nat × Nat) (k : Nat) (h : k < s.size) :
    (w.alloc (.cells (bytesRow s cap) 5 m)).cell? ⟨w.heap.size, k, none⟩ = some (.int .u8 (s[k].toNat : Int)) := by
  rw [World.cell?_alloc_mark, bytesRow_at s cap k h]; rfl

set_option maxHeartbeats 400000 in
theorem u_any (b : Nat) (s : Codec.St) (w : World) (h : InAt w b s) :
    Calls Tryd.prog 59 #[.pointer (some ⟨b, 0, none⟩)] w fun e w' => e = .returned (.int .u64 ((Codec.takeU s).1 : Nat)) ∧ InAt w' b (Codec.takeU s).2 ∧ But b w.heap.size w w' := by
  have HSZ := hide (size_any b s w h)
  have HT : Hid (∀ w1, InAt w1 b (Codec.size s).2 → Calls Tryd.prog 62 #[.pointer (some ⟨b, 0, none⟩), .int .i64 ((Codec.size s).1 : Nat)] w1 fun e w' => e = .returned (.string (S (Codec.digits s).1)) ∧ InAt w' b (Codec.digits s).2 ∧ But b w1.heap.size w1 w') :=
    fun w1 h1 => take_any b (Codec.size s).1 (Codec.size s).2 w1 h1
  have hsp : Codec.takeU s = match (Codec.digits s).1 with
    | [] => (0, (Codec.digits s).2)
    | c :: _ => if c.toNat = 0 then (0, Codec.fail 2 (Codec.digits s).2) else (Codec.val (Codec.digits s).1, (Codec.digits s).2) := rfl
  rw [hsp]
  have hd8 := (Codec.digits_length s).1
  clear hsp h
  generalize Codec.digits s = p at *
  generalize Codec.size s = p1 at *
  obtain ⟨k1, s1⟩ := p1
  obtain ⟨d, st⟩ := p
  simp only at HT HSZ hd8 ⊢
  match d, hd8 with
  | [], _ =>
    have he : (S []).toList.isEmpty = true := S_isEmpty []
    go_enter Tryd.func59, Tryd.ntmps59
    go_wp2_with fail
    refine (unhide HSZ).mono ?_
    rintro e w1 ⟨rfl, hin1, hbut1⟩
    go_wp2_with fail
    refine (unhide HT w1 hin1).mono ?_
    rintro e w2 ⟨rfl, hin2, hbut2⟩
    go_wp2
    go_ret
    exact ⟨rfl, hin2, hbut1.trans (hbut2.mono hbut1.size)⟩
  | c :: r, hd8 =>
    have he : (S (c :: r)).toList.isEmpty = false := S_isEmpty (c :: r)
    have hsz : (S (c :: r)).size = r.length + 1 := rfl
    have h0 : ∀ h, (S (c :: r))[0]'h = c := fun h => rfl
    by_cases hc : c.toNat = 0
    · dsimp only
      rw [if_pos hc]
      have hc0 : ((c.toNat : Int) == 0) = true := by rw [beq_iff_eq]; omega
      go_enter Tryd.func59, Tryd.ntmps59
      go_wp2_with fail
      refine (unhide HSZ).mono ?_
      rintro e w1 ⟨rfl, hin1, hbut1⟩
      go_wp2_with fail
      refine (unhide HT w1 hin1).mono ?_
      rintro e w2 ⟨rfl, hin2, hbut2⟩
      have HF := hide (fail_any b 2 st w2 hin2)
      go_wp2_with fail
      refine (unhide HF).mono ?_
      rintro e w3 ⟨rfl, hin3, hbut3⟩
      go_wp2
      go_ret
      exact ⟨rfl, hin3, (hbut1.trans (hbut2.mono hbut1.size)).trans (hbut3.mono (Nat.le_trans hbut1.size hbut2.size))⟩
    · dsimp only
      rw [if_neg hc]
      have hc0 : ((c.toNat : Int) == 0) = false := by rw [beq_eq_false_iff_ne]; omega
      have kc := fun (wx : World) => run_bytes_of_string (P := Tryd.prog) wx 9 46 5 (S (c :: r)) under_string under_bytes under_byte
      rw [hsz] at kc
      go_enter Tryd.func59, Tryd.ntmps59
      go_wp2_with fail
      refine (unhide HSZ).mono ?_
      rintro e w1 ⟨rfl, hin1, hbut1⟩
      go_wp2_with fail
      refine (unhide HT w1 hin1).mono ?_
      rintro e w2 ⟨rfl, hin2, hbut2⟩
      go_wp2_with fail
      clear kc
      have hdl : (c :: r).length = r.length + 1 := rfl
      have HIN := hide hin2
      have HBUT := hide (hbut1.trans (hbut2.mono hbut1.size))
      have hle : w.heap.size ≤ w2.heap.size := Nat.le_trans hbut1.size hbut2.size
      clear hin1 hbut1 hin2 hbut2 HT HSZ he h0 hc hc0
      generalize r.length = n1 at *
      generalize hcr : c :: r = d at *
      have HCR := hide hcr
      clear hcr
      go_loop [4, 21] (fun x i => ∃ k : Nat, k ≤ n1 + 1 ∧ i = .int .i64 k ∧ x = .int .u64 (Codec.val (d.take k) : Nat)) (fun _ i => n1 + 1 - (intOf i).toNat)
      case atStart => exact ⟨0, by omega, rfl, rfl⟩
      case round =>
        obtain ⟨k, hk, rfl, rfl⟩ := hrel
        by_cases hlt : k < n1 + 1
        · have hkd : k < d.length := by omega
          have HV := hide (val_take d k hkd)
          have hvs := val_small d k (by omega) hkd
          have hcell := bytes_cell w2 (S d) (grownCap w2 (n1 + 1) 0 5) ((bytesRow (S d) (grownCap w2 (n1 + 1) 0 5)).size, (bytesRow (S d) (grownCap w2 (n1 + 1) 0 5)).size + 1) k (by rw [hsz]; exact hlt)
          have hg : (S d)[k]'(by rw [hsz]; exact hlt) = d[k] := rfl
          rw [hg] at hcell
          clear hg
          generalize d[k] = x at *
          generalize Codec.val (d.take k) = v at *
          have hor := shl_or v x hvs
          go_wp2
          exact ⟨⟨k + 1, by omega, by go_num, by rw [unhide HV]; go_num⟩, by simp [intOf]; omega⟩
        · have : k = d.length := by omega
          subst this
          rw [List.take_length]
          go_wp2
          go_ret
          have hb : Below w2.heap.size w2 (w2.alloc (Obj.cells (bytesRow (S d) (grownCap w2 (n1 + 1) 0 5)) 5 ((bytesRow (S d) (grownCap w2 (n1 + 1) 0 5)).size, (bytesRow (S d) (grownCap w2 (n1 + 1) 0 5)).size + 1))).drew := ((Below.refl _ _).alloc (Nat.le_refl _) _).drew
          exact ⟨ret_int (by rw [unhide HCR]), (unhide HIN).later hb, (unhide HBUT).trans (But.of_below (hb.mono hle))⟩
end Go.Proofs.YtbmhmljbpjimoaaDoor
/- Plain functions of keys: a part with its noughts marked and its end; a key of parts. No program is named here. -/
namespace Codec

def esc (p : List UInt8) : List UInt8 := p.flatMap fun c => if c.toNat = 0 then [0, 255] else [c]
def encPart (p : List UInt8) : List UInt8 := esc p ++ [0, 1]
def key (l : List (List UInt8)) : List UInt8 := l.flatMap encPart

theorem esc_append (p q : List UInt8) : esc (p ++ q) = esc p ++ esc q := by simp [esc]
theorem esc_one (c : UInt8) : esc [c] = if c.toNat = 0 then [0, 255] else [c] := by simp [esc]
theorem esc_snoc (p : List UInt8) (k : Nat) (h : k < p.length) : esc (p.take (k + 1)) = esc (p.take k) ++ (if (p[k]).toNat = 0 then [0, 255] else [p[k]]) := by
  rw [List.take_succ_eq_append_getElem h, esc_append, esc_one]
theorem esc_length (p : List UInt8) : (esc p).length ≤ 2 * p.length := by
  induction p with
  | nil => simp [esc]
  | cons c p ih =>
    have e : esc (c :: p) = (if c.toNat = 0 then [0, 255] else [c]) ++ esc p := rfl
    rw [e, List.length_append, List.length_cons]
    split <;> simp <;> omega
theorem key_append (a b : List (List UInt8)) : key (a ++ b) = key a ++ key b := by simp [key]
theorem key_snoc (l : List (List UInt8)) (k : Nat) (h : k < l.length) : key (l.take (k + 1)) = key (l.take k) ++ encPart l[k] := by
  rw [List.take_succ_eq_append_getElem h, key_append]
  simp [key]

end Codec
/- The library's contract of math/bits.Len64, laid at this program. -/
namespace Go.Proofs
open Go.Shelf
def Tryd.lays129_ren : Go.Shelf.Ren := ⟨fun | 129 => 84 | n => n, fun | 53 => 112 | 3 => 3 | 4 => 4 | 46 => 94 | 5 => 5 | 9 => 9 | n => n, fun | n => n⟩
theorem Tryd.lays129 : Go.Proofs.Lays.n129 Tryd.prog Tryd.lays129_ren := {
  mixed := by kernel_rfl
  f129 := Tryd.func84.trans (congrArg some (by kernel_rfl))
  t3 := Tryd.underlying3
  a3 := Tryd.isAgg3
  z3 := Tryd.sizeOf3
  v3 := Tryd.zeroValue3
  t4 := Tryd.underlying4
  a4 := Tryd.isAgg4
  z4 := Tryd.sizeOf4
  v4 := Tryd.zeroValue4
  t5 := Tryd.underlying5
  a5 := Tryd.isAgg5
  z5 := Tryd.sizeOf5
  v5 := Tryd.zeroValue5
  t9 := Tryd.underlying9
  a9 := Tryd.isAgg9
  z9 := Tryd.sizeOf9
  v9 := Tryd.zeroValue9
  t46 := Tryd.underlying94
  a46 := Tryd.isAgg94
  z46 := Tryd.sizeOf94
  v46 := Tryd.zeroValue94
  t53 := Tryd.underlying112
  a53 := Tryd.isAgg112
  z53 := Tryd.sizeOf112
  v53 := Tryd.zeroValue112 }
theorem Tryd.bits_Len64 (x : Int) (w : World) (h0 : 0 ≤ x) (h1 : x ≤ 18446744073709551615) :
    Calls Tryd.prog 84 #[.int .u64 x] w fun e w' => e = .returned (.int .i64 (Lib.bitLen x.toNat)) ∧ w' = w := Any.bits_Len64 Tryd.lays129 x w h0 h1
end Go.Proofs
/- The contracts of an Out that grows by numbers: its bytes behind the call are those before and the number's. -/
namespace Go.Proofs.YtbmhmljbpjimoaaDoor
open Go.RowKit
set_option linter.unusedVariables false
set_option maxRecDepth 100000

def B8 (l : List UInt8) : List Value := l.map fun c => Value.int .u8 (c.toNat : Int)
theorem B8_append (a b : List UInt8) : B8 (a ++ b) = B8 a ++ B8 b := by simp [B8]
theorem B8_length (a : List UInt8) : (B8 a).length = a.length := by simp [B8]

/- An Out at block b: its one cell holds a slice that owns a row of a later block. -/
structure OutAt (w : World) (b : Nat) (l : List UInt8) : Prop where
  lt : b < w.heap.size
  frozen : w.frozen? ⟨b, 0, none⟩ = false
  cell : ∃ ao c, w.cell? ⟨b, 0, none⟩ = some (.slice ao l.length c) ∧ w.ownsRow (b + 1) 5 1 (.slice ao l.length c) l.length (B8 l)

/- Block k is neither the Out's own nor that of its row. -/
structure Foreign (w : World) (b k : Nat) : Prop where
  ne : k ≠ b
  own : ∀ v, w.cell? ⟨b, 0, none⟩ = some v → v.ownBlock ≠ some k

/- What a call of an Out leaves: blocks that are foreign to it are as they were, and foreign still. -/
structure Step (b : Nat) (w w' : World) : Prop where
  os : w'.os = w.os
  tape : w'.tape = w.tape
  output : w'.output = w.output
  size : w.heap.size ≤ w'.heap.size
  keep : ∀ k, k < w.heap.size → Foreign w b k → w'.heap[k]? = w.heap[k]? ∧ Foreign w' b k

theorem Step.refl (b : Nat) (w : World) : Step b w w := ⟨rfl, rfl, rfl, Nat.le_refl _, fun _ _ h => ⟨rfl, h⟩⟩
theorem Step.trans {b : Nat} {u v w : World} (h : Step b u v) (k : Step b v w) : Step b u w :=
  ⟨k.os.trans h.os, k.tape.trans h.tape, k.output.trans h.output, Nat.le_trans h.size k.size, fun i hi hf => by
    obtain ⟨e1, f1⟩ := h.keep i hi hf
    obtain ⟨e2, f2⟩ := k.keep i (by have := h.size; omega) f1
    exact ⟨e2.trans e1, f2⟩⟩
theorem Foreign.of_lt {w : World} {b k : Nat} {l : List UInt8} (h : OutAt w b l) (hk : k < b) : Foreign w b k := by
  obtain ⟨ao, c, hc, ho⟩ := h.cell
  refine ⟨by omega, fun v hv e => ?_⟩
  rw [hc] at hv
  injection hv with hv
  subst hv
  have := (ho.lt k e).1
  omega
theorem Step.below {b B : Nat} {w w' : World} {l : List UInt8} (h : Step b w w') (ho : OutAt w b l) (hB : B ≤ b) : Below B w w' :=
  ⟨h.os, h.tape, h.output, h.size, fun k hk => (h.keep k (by have := ho.lt; omega) (Foreign.of_lt ho (by omega))).1⟩
theorem OutAt.later {w w' : World} {b : Nat} {l : List UInt8} (h : OutAt w b l) (hb : Below w.heap.size w w') : OutAt w' b l ∧ Step b w w' := by
  obtain ⟨ao, c, hc, ho⟩ := h.cell
  have hsz := hb.size
  have hlt := h.lt
  have hc' : w'.cell? ⟨b, 0, none⟩ = some (.slice ao l.length c) := by rw [hb.cell (p := ⟨b, 0, none⟩) hlt]; exact hc
  refine ⟨⟨by omega, by rw [hb.frozen (p := ⟨b, 0, none⟩) hlt]; exact h.frozen, ao, c, hc', ownsRow_below ho hb⟩, ⟨hb.os, hb.tape, hb.output, hb.size, fun k hk hf => ⟨hb.block k hk, hf.ne, fun v hv => ?_⟩⟩⟩
  rw [hb.cell (p := ⟨b, 0, none⟩) hlt] at hv
  exact hf.own v hv
/- A new Out. -/
theorem OutAt.new (w : World) : OutAt (w.alloc (.cells #[.slice none 0 0] 99)) w.heap.size [] :=
  ⟨by simp, by simp, none, 0, by simp, World.ownsRow_nil _ _ _ _⟩

theorem fresh_of {A : Prop} {v : Option Nat} {M N : Nat} (h : A ∨ ∀ k, v = some k → N ≤ k) (hN : M ≤ N) : A ∨ ∀ k, v = some k → M ≤ k := by
  rcases h with h | h
  · exact Or.inl h
  · exact Or.inr fun k hk => Nat.le_trans hN (h k hk)

theorem grown_drew {w w1 : World} {r : Option Nat} (h : w.drew.grownBy w1 r) : w.grownBy w1 r := ⟨h.os, h.tape, h.output, h.size, h.block⟩

/- Behind an append: the Out's own cell is as it was. -/
theorem OutAt.grow0 {w w0 w1 : World} {b : Nat} {l : List UInt8} (h : OutAt w b l) (hb0 : Below w.heap.size w w0) {ao : Option Addr} {c : Nat} (hown : w.ownsRow (b + 1) 5 1 (.slice ao l.length c) l.length (B8 l))
    (hg : w0.grownBy w1 (Value.slice ao l.length c).ownBlock) :
    w1.frozen? ⟨b, 0, none⟩ = false ∧ w1.cell? ⟨b, 0, none⟩ = w.cell? ⟨b, 0, none⟩ ∧ b < w1.heap.size := by
  have hlt := h.lt
  have hsz := hg.size
  have hs0 := hb0.size
  have hlo := hown.lt
  have hblk : w1.heap[b]? = w.heap[b]? := by
    rw [hg.block b (by omega) (fun e => by have := hlo b e.symm; omega), hb0.block b hlt]
  refine ⟨?_, World.cell?_of_block (w := w) (a := ⟨b, 0, none⟩) hblk, by omega⟩
  rw [World.frozen?_of_block (w := w) (a := ⟨b, 0, none⟩) hblk]
  exact h.frozen
theorem OutAt.grow {w w1 : World} {b : Nat} {l : List UInt8} (h : OutAt w b l) {o : Obj} {ao : Option Addr} {c : Nat} (hown : w.ownsRow (b + 1) 5 1 (.slice ao l.length c) l.length (B8 l))
    (hg : (w.alloc o).grownBy w1 (Value.slice ao l.length c).ownBlock) :
    w1.frozen? ⟨b, 0, none⟩ = false ∧ w1.cell? ⟨b, 0, none⟩ = w.cell? ⟨b, 0, none⟩ ∧ b < w1.heap.size := h.grow0 ((Below.refl _ _).alloc (Nat.le_refl _) o) hown hg

/- Behind the store of the new slice. -/
theorem OutAt.put0 {w w0 w1 : World} {b : Nat} {l : List UInt8} (h : OutAt w b l) (hb0 : Below w.heap.size w w0) {ao : Option Addr} {c : Nat} (hcell : w.cell? ⟨b, 0, none⟩ = some (.slice ao l.length c))
    (hown : w.ownsRow (b + 1) 5 1 (.slice ao l.length c) l.length (B8 l)) (hg : w0.grownBy w1 (Value.slice ao l.length c).ownBlock)
    {v : Value} {ys : List UInt8} (hown' : w1.ownsRow (b + 1) 5 1 v (l.length + ys.length) (B8 l ++ B8 ys))
    (hfr : v.ownBlock = (Value.slice ao l.length c).ownBlock ∨ ∀ k, v.ownBlock = some k → w.heap.size ≤ k) :
    OutAt (w1.setCell ⟨b, 0, none⟩ v) b (l ++ ys) ∧ Step b w (w1.setCell ⟨b, 0, none⟩ v) := by
  obtain ⟨hf1, hc1, hlt1⟩ := h.grow0 hb0 hown hg
  have hsz := hg.size
  have hs0 := hb0.size
  have hnew : (w1.setCell ⟨b, 0, none⟩ v).cell? ⟨b, 0, none⟩ = some v := World.cell?_setCell_same _ _ _ (hc1.trans hcell)
  have hown2 := ownsRow_setCell_below hown' (a := ⟨b, 0, none⟩) (by simp) v
  rw [← B8_append, ← List.length_append] at hown2
  refine ⟨?_, ?_⟩
  · obtain ⟨ao', c', rfl, _⟩ := ownsRow_slice hown2
    refine ⟨by simpa using hlt1, by rw [World.frozen?_setCell]; exact hf1, ao', c', hnew, hown2⟩
  · refine ⟨hg.os.trans hb0.os, hg.tape.trans hb0.tape, hg.output.trans hb0.output, by simp [World.setCell]; omega, fun k hk hf => ⟨?_, hf.ne, ?_⟩⟩
    · rw [Below.heap_setCell _ _ _ _ hf.ne, hg.block k (by omega) (fun e => hf.own _ hcell e.symm), hb0.block k hk]
    · intro u hu
      rw [hnew] at hu
      injection hu with hu
      subst hu
      rcases hfr with e | e
      · rw [e]; exact hf.own _ hcell
      · intro ek
        have := e k ek
        omega
theorem OutAt.put {w w1 : World} {b : Nat} {l : List UInt8} (h : OutAt w b l) {o : Obj} {ao : Option Addr} {c : Nat} (hcell : w.cell? ⟨b, 0, none⟩ = some (.slice ao l.length c))
    (hown : w.ownsRow (b + 1) 5 1 (.slice ao l.length c) l.length (B8 l)) (hg : (w.alloc o).grownBy w1 (Value.slice ao l.length c).ownBlock)
    {v : Value} {ys : List UInt8} (hown' : w1.ownsRow (b + 1) 5 1 v (l.length + ys.length) (B8 l ++ B8 ys))
    (hfr : v.ownBlock = (Value.slice ao l.length c).ownBlock ∨ ∀ k, v.ownBlock = some k → w.heap.size ≤ k) :
    OutAt (w1.setCell ⟨b, 0, none⟩ v) b (l ++ ys) ∧ Step b w (w1.setCell ⟨b, 0, none⟩ v) := h.put0 ((Below.refl _ _).alloc (Nat.le_refl _) o) hcell hown hg hown' hfr

theorem u8_of (n : Nat) (h : n < 256) : ((n : Nat) : Int) = ((UInt8.ofNat n).toNat : Int) := by rw [UInt8.toNat_ofNat']; omega

theorem shifted (n j : Nat) (h : j < 8) : IntKind.u8.wrap ((n : Int) / 2 ^ (8 * (j : Int)).toNat) = ((UInt8.ofNat (n / 256 ^ j % 256)).toNat : Int) := by
  have e : (8 * (j : Int)).toNat = 8 * j := by omega
  rw [e, IntKind.wrap_u8', Codec.byte_of, Codec.pow256]
  have : ((n : Int) / 2 ^ (8 * j)) = ((n / 2 ^ (8 * j) : Nat) : Int) := by simp
  rw [this]
  omega

set_option maxHeartbeats 400000 in
theorem number_any (b n : Nat) (l : List UInt8) (w : World) (h : OutAt w b l) (hn : n < 18446744073709551616) (hl : l.length ≤ 1099511627776) :
    Calls Tryd.prog 75 #[.pointer (some ⟨b, 0, none⟩), .int .u64 n] w fun e w' => e = .returned (.tuple #[]) ∧ OutAt w' b (l ++ Codec.enc n) ∧ Step b w w' := by
  obtain ⟨i0, hi, hz0, hz1, hz2⟩ := info_parts info_byte
  have HLEN := hide (Tryd.bits_Len64 n w (by omega) (by omega))
  have hb8 := Codec.blen_le n hn
  have hbl := Codec.bitLen_le64 n hn
  obtain ⟨m, hm⟩ : ∃ m, m = Codec.blen n := ⟨_, rfl⟩
  have hdiv : ((Lib.bitLen n : Int) + 7) / 8 = (m : Int) := by rw [hm]; unfold Codec.blen; omega
  rw [← hm] at hb8
  have HM := hide hm
  rw [Int.toNat_natCast] at HLEN
  generalize Lib.bitLen n = kk at *
  have hm256 : ((m : Nat) : Int) % 256 = (m : Int) := by omega
  have HBYTE := hide (u8_of m (by omega))
  obtain ⟨ao, c, hcell, hown⟩ := h.cell
  have hfr := h.frozen
  have HOWN := hide hown
  have HCELL := hide hcell
  have HH := hide h
  have HN := hide hn
  clear hn hm h hown
  go_enter Tryd.func75, Tryd.ntmps75
  go_wp2_with fail
  refine (unhide HLEN).mono ?_
  rintro e wq ⟨rfl, rfl⟩
  clear HLEN
  go_wp2_with (first | (at_builtin; refine wpList_append_fresh rfl _ _ 46 rfl (b + 1) 5 i0 (.int .u8 0) 1 1 under_bytes hi hz0 hz1 hz2 rfl (by decide) _ _ _ rfl ((unhide HOWN).alloc _) ⟨wq.heap.size, 0, none⟩ 1 1 [.int .u8 (m : Int)] rfl rfl (cell_one_new _ _ _) ?c2 ?c3 ?c4 ?c5 ?_) | fail)
  case c2 => intro u hu; simp at hu; subst hu; rfl
  case c3 => unfold maxLen; omega
  case c4 => omega
  case c5 => have := (unhide HH).lt; simp; omega
  intro v' w1 hown' hgrow hfresh
  have hgr := (unhide HH).grow (unhide HOWN) hgrow
  have hput := (unhide HH).put (unhide HCELL) (unhide HOWN) hgrow (ys := [UInt8.ofNat m]) (by rw [unhide HBYTE] at hown'; exact hown') (fresh_of hfresh (by simp))
  obtain ⟨hf1, hc1, _⟩ := hgr
  rw [unhide HCELL] at hc1
  obtain ⟨a1, c1, rfl, _⟩ := ownsRow_slice hown'
  have HPUT := hide hput
  clear hown' hgrow hcell hfr hfresh hput
  go_wp2_with fail
  go_loopw [22] (fun i wr => ∃ k : Nat, k ≤ m ∧ i = .int .i64 k ∧ OutAt wr b (l ++ UInt8.ofNat m :: (Codec.be m n).take k) ∧ Step b wq wr) (fun i _ => m - (intOf i).toNat)
  case atStart =>
    have e : l ++ UInt8.ofNat m :: (Codec.be m n).take 0 = l ++ [UInt8.ofNat m] := by simp
    refine ⟨0, Nat.zero_le _, rfl, ?_, (unhide HPUT).2⟩
    rw [e]
    exact (unhide HPUT).1
  case round =>
    obtain ⟨k, hk, rfl, ho, hbw⟩ := hrel
    clear HPUT HH HOWN HCELL hf1 hc1
    by_cases hlt : k < m
    · obtain ⟨ao, c, hcell, hown⟩ := ho.cell
      have hfr := ho.frozen
      have hlen : (l ++ UInt8.ofNat m :: (Codec.be m n).take k).length ≤ 1099511627776 + 9 := by
        rw [List.length_append, List.length_cons, List.length_take, Codec.be_length]; omega
      have hblt : b < wr.heap.size := ho.lt
      have hcellA : ∀ o, (wr.alloc o).cell? ⟨b, 0, none⟩ = some (.slice ao (l ++ UInt8.ofNat m :: (Codec.be m n).take k).length c) := fun o => by
        rw [World.cell?_of_block (w := wr) (a := ⟨b, 0, none⟩) (Below.heap_alloc wr o b hblt)]; exact hcell
      have HO := hide ho
      have HOWN := hide hown
      have HCELL := hide hcell
      clear ho hown
      generalize hl2 : l ++ UInt8.ofNat m :: (Codec.be m n).take k = l2 at *
      have HL2 := hide hl2
      clear hl2
      obtain ⟨j, hj⟩ : ∃ j : Nat, (m : Int) - 1 - (k : Int) = (j : Int) := ⟨m - 1 - k, by omega⟩
      have hj8 : j < 8 := by omega
      have hw1 : IntKind.i64.wrap ((m : Int) - 1) = (m : Int) - 1 := by rw [IntKind.wrap_i64]; omega
      have hw2 : IntKind.i64.wrap ((m : Int) - 1 - (k : Int)) = (j : Int) := by rw [IntKind.wrap_i64]; omega
      have hw3 : IntKind.i64.wrap (8 * (j : Int)) = 8 * (j : Int) := by rw [IntKind.wrap_i64]; omega
      have HJ := hide hj
      clear hj
      have hjn : j = m - 1 - k := by have := unhide HJ; omega
      have HBY := hide (shifted n j hj8)
      have hl3 : l ++ UInt8.ofNat m :: (Codec.be m n).take (k + 1) = l2 ++ [UInt8.ofNat (n / 256 ^ j % 256)] := by
        rw [← unhide HL2, Codec.be_take m n k hlt, hjn]; simp
      have HL3 := hide hl3
      clear hl3 hjn
      go_wp2_with fail
      go_region_law (refine step_append_fresh rfl (.tmp 29) (.tmp 38) 46 rfl (b + 1) 5 i0 (.int .u8 0) 1 1 under_bytes hi hz0 hz1 hz2 rfl (by decide) (.slice ao l2.length c) l2.length (B8 l2) (by simp [Act.eval]) ((unhide HOWN).alloc _) ⟨wr.heap.size, 0, none⟩ 1 1 [.int .u8 (IntKind.u8.wrap ((n : Int) / 2 ^ (8 * (j : Int)).toNat))] (by simp [Act.eval]) rfl (fun jj u hu => by exact cell_one_new _ _ _ jj u hu) (fun u hu => by simp at hu; subst hu; rfl) (by unfold maxLen; omega) (by omega) (by simp; omega) ?_; intro v' w2 hown' hgrow hfresh; have hgr := (unhide HO).grow (unhide HOWN) (grown_drew hgrow); have HPUT := hide ((unhide HO).put (unhide HCELL) (unhide HOWN) (grown_drew hgrow) (ys := [UInt8.ofNat (n / 256 ^ j % 256)]) (by rw [unhide HBY] at hown'; exact hown') (fresh_of hfresh (by simp))); obtain ⟨hf2, hc2, _⟩ := hgr; rw [unhide HCELL] at hc2; obtain ⟨a2, c2, rfl, _⟩ := ownsRow_slice hown'; clear hown' hgrow hfresh)
      all_goals
        obtain ⟨ho3, hst3⟩ := unhide HPUT
        rw [← unhide HL3] at ho3
        have HO3 := hide ho3
        have HB3 := hide (hbw.trans hst3)
        clear ho3 hst3 HPUT hf2 hc2 hcell hcellA hw1 hw2 hw3
        go_wp2
        go_roundw
        case rel => exact ⟨k + 1, by omega, by go_num, unhide HO3, unhide HB3⟩
        case measure => simp [intOf]; omega
    · have : k = m := by omega
      subst this
      have e : (Codec.be k n).take k = Codec.be k n := List.take_of_length_le (by rw [Codec.be_length]; exact Nat.le_refl _)
      rw [e] at ho
      have e2 : Codec.enc n = UInt8.ofNat k :: Codec.be k n := by unfold Codec.enc; rw [← unhide HM]
      rw [← e2] at ho
      clear e e2
      go_wp2
      go_end0
      exact ⟨rfl, ho, hbw⟩
end Go.Proofs.YtbmhmljbpjimoaaDoor
/- The contracts of codec's Key: the bytes of the parts' key, in new memory. -/
namespace Go.Proofs.YtbmhmljbpjimoaaDoor
open Go.RowKit
set_option linter.unusedVariables false
set_option maxRecDepth 100000

/- The text of an owned row of bytes. -/
theorem bytes_text {w : World} {base : Nat} {v : Value} {l : List UInt8} (h : w.ownsRow base 5 1 v l.length (B8 l)) :
    (convert 46 9 v).run Tryd.prog w = .ok (.string (S l)) w := by
  rcases h.2 with ⟨rfl, hn⟩ | ⟨g, cap, cur, rfl, hb, hg, hnc, hcm, hcs, ht⟩
  · have : l = [] := List.length_eq_zero_iff.1 hn
    subst this
    exact run_convert_bytes_nil w 46 5 under_bytes under_byte 0 0 9 under_string
  · refine run_convert_bytes_back w 46 9 5 ⟨g, 0, none⟩ cap l under_bytes under_byte under_string ?_
    intro j hj
    rw [plain_add, Nat.zero_add, h.cellAt j (by omega)]
    simp [B8, hj]

/- A row of bytes of the call's own, apart from block g, which is as it was in w0. -/
structure RowAt (w0 wr : World) (base g : Nat) (v : Value) (l : List UInt8) : Prop where
  own : wr.ownsRow base 5 1 v l.length (B8 l)
  apart : v.ownBlock ≠ some g
  kept : wr.heap[g]? = w0.heap[g]?
  lt : g < wr.heap.size
  base_le : base ≤ wr.heap.size
  below : Below base w0 wr

theorem RowAt.grow {w0 wr w1 : World} {base g : Nat} {v v' : Value} {l ys : List UInt8} {o : Obj} (h : RowAt w0 wr base g v l)
    (hown : w1.ownsRow base 5 1 v' (l.length + ys.length) (B8 l ++ B8 ys)) (hg : (wr.alloc o).grownBy w1 v.ownBlock)
    (hfr : v'.ownBlock = v.ownBlock ∨ ∀ k, v'.ownBlock = some k → wr.heap.size ≤ k) : RowAt w0 w1 base g v' (l ++ ys) := by
  have hlt := h.lt
  have hb := h.base_le
  have hsz := hg.size
  simp at hsz
  have hlo := h.own.lt
  refine ⟨by rw [B8_append, List.length_append]; exact hown, ?_, ?_, by omega, by omega, ?_⟩
  · rcases hfr with e | e
    · rw [e]; exact h.apart
    · intro ek
      have := e g ek
      omega
  · rw [hg.block g (by simp; omega) (fun e => h.apart e.symm), Below.heap_alloc _ _ _ hlt]; exact h.kept
  · exact (h.below.alloc hb o).grown hg (by simp; omega) (fun k hk => (hlo k hk).1)

theorem two_new (w : World) (a b : Value) (t : TypeId) : ∀ j u, [a, b][j]? = some u → (w.alloc (.cells #[a, b] t)).cell? ((⟨w.heap.size, 0, none⟩ : Addr).add j) = some u := by
  intro j u hu
  rw [plain_add, Nat.zero_add]
  match j, hu with
  | 0, hu => simp at hu; subst hu; simp
  | 1, hu => simp at hu; subst hu; simp

/- A slice of texts that came in: its first 'len' texts, at a plain address. -/
def Texts (w : World) (a : Option Addr) (l : List (List UInt8)) : Prop :=
  ∀ i (hi : i < l.length), ∃ b off, a = some ⟨b, off, none⟩ ∧ b < w.heap.size ∧ w.cell? ⟨b, off + i, none⟩ = some (.string (S l[i]))

theorem Texts.later {w w' : World} {a : Option Addr} {l : List (List UInt8)} (h : Texts w a l) (hb : Below w.heap.size w w') : Texts w' a l := by
  intro i hi
  obtain ⟨b, off, e, hlt, hc⟩ := h i hi
  exact ⟨b, off, e, by have := hb.size; omega, by rw [hb.cell (p := ⟨b, off + i, none⟩) hlt]; exact hc⟩

theorem key_small (l : List (List UInt8)) (n k : Nat) (hl : l.length ≤ 64) (hz : ∀ i (h : i < l.length), l[i].length ≤ 1048576) (hk : k ≤ l.length) : (Codec.key (l.take k)).length ≤ 2097154 * k := by
  induction k with
  | zero => simp [Codec.key]
  | succ k ih =>
    rw [Codec.key_snoc l k (by omega), List.length_append]
    have h1 := ih (by omega)
    have h2 := Codec.esc_length l[k]
    have h3 := hz k (by omega)
    have h4 : (Codec.encPart l[k]).length = (Codec.esc l[k]).length + 2 := by simp [Codec.encPart]
    omega

end Go.Proofs.YtbmhmljbpjimoaaDoor
/- The contracts of an In's further calls: whole numbers, numbers up to a limit, texts, the end; a new In. -/
namespace Go.Proofs.YtbmhmljbpjimoaaDoor
open Go.RowKit
set_option linter.unusedVariables false
set_option maxRecDepth 100000

theorem u64_and_one (n : Nat) (h : n < 18446744073709551616) : bits .and .u64 (n : Int) 1 = ((n % 2 : Nat) : Int) := by
  have := u64_and_nat n 1 h (by omega)
  rw [Nat.and_one_is_mod] at this
  exact this

theorem not_half (n : Nat) (h : n < 18446744073709551616) : bits .xor .i64 (-1) ((n : Int) / 2) = -((n / 2 : Nat) : Int) - 1 := by
  have e := i64_not (n / 2) (by omega)
  rw [show ((n : Int) / 2) = ((n / 2 : Nat) : Int) from by simp, e]
  omega

set_option maxHeartbeats 400000 in
theorem nought_any (m : Int) (w : World) (h1 : -9223372036854775808 ≤ m) (h2 : m ≤ 9223372036854775807) :
    Calls Tryd.prog 60 #[.int .i64 m] w fun e w' => e = .returned (.int .u64 ((max m 0).toNat : Nat)) ∧ w' = w := by
  go_enter Tryd.func60, Tryd.ntmps60
  go_wp2
  all_goals
    go_ret
    exact ⟨ret_int (by omega), rfl⟩

set_option maxHeartbeats 400000 in
theorem n_any (b : Nat) (m : Int) (s : Codec.St) (w : World) (h : InAt w b s) (h1 : -9223372036854775808 ≤ m) (h2 : m ≤ 9223372036854775807) :
    Calls Tryd.prog 46 #[.pointer (some ⟨b, 0, none⟩), .int .i64 m] w fun e w' => e = .returned (.int .i64 ((Codec.takeN m s).1 : Nat)) ∧ InAt w' b (Codec.takeN m s).2 ∧ But b w.heap.size w w' := by
  have HU := hide (u_any b s w h)
  have hul := Codec.takeU_lt s
  have HN := hide (fun wx => nought_any m wx h1 h2)
  have hmx : (max m 0).toNat ≤ 9223372036854775807 := by omega
  unfold Codec.takeN
  clear h
  generalize Codec.takeU s = p at *
  generalize (max m 0).toNat = mm at *
  obtain ⟨u, st⟩ := p
  simp only at HU hul ⊢
  by_cases hc : u ≤ mm
  · rw [if_pos hc]
    go_enter Tryd.func46, Tryd.ntmps46
    go_wp2_with fail
    refine (unhide HU).mono ?_
    rintro e w1 ⟨rfl, hin, hbut⟩
    go_wp2_with fail
    refine (unhide HN _).mono ?_
    rintro e w2 ⟨rfl, rfl⟩
    go_wp2
    go_ret
    exact ⟨rfl, hin, hbut⟩
  · rw [if_neg hc]
    go_enter Tryd.func46, Tryd.ntmps46
    go_wp2_with fail
    refine (unhide HU).mono ?_
    rintro e w1 ⟨rfl, hin, hbut⟩
    go_wp2_with fail
    refine (unhide HN _).mono ?_
    rintro e w2 ⟨rfl, rfl⟩
    have HF := hide (fail_any b 3 st w2 hin)
    go_wp2_with fail
    refine (unhide HF).mono ?_
    rintro e w3 ⟨rfl, hin3, hbut3⟩
    go_wp2
    go_ret
    exact ⟨rfl, hin3, hbut.trans (hbut3.mono hbut.size)⟩

set_option maxHeartbeats 400000 in
theorem s_any (b : Nat) (m : Int) (s : Codec.St) (w : World) (h : InAt w b s) (h1 : -9223372036854775808 ≤ m) (h2 : m ≤ 9223372036854775807) :
    Calls Tryd.prog 47 #[.pointer (some ⟨b, 0, none⟩), .int .i64 m] w fun e w' => e = .returned (.string (S (Codec.takeS m s).1)) ∧ InAt w' b (Codec.takeS m s).2 ∧ But b w.heap.size w w' := by
  have HN := hide (n_any b m s w h h1 h2)
  have HT : Hid (∀ w1, InAt w1 b (Codec.takeN m s).2 → Calls Tryd.prog 62 #[.pointer (some ⟨b, 0, none⟩), .int .i64 ((Codec.takeN m s).1 : Nat)] w1 fun e w' => e = .returned (.string (S (Codec.takeS m s).1)) ∧ InAt w' b (Codec.takeS m s).2 ∧ But b w1.heap.size w1 w') :=
    fun w1 hw => take_any b _ _ w1 hw
  clear h
  generalize Codec.takeN m s = p at *
  generalize Codec.takeS m s = q at *
  go_enter Tryd.func47, Tryd.ntmps47
  go_wp2_with fail
  refine (unhide HN).mono ?_
  rintro e w1 ⟨rfl, hin, hbut⟩
  go_wp2_with fail
  refine (unhide HT w1 hin).mono ?_
  rintro e w2 ⟨rfl, hin2, hbut2⟩
  go_wp2
  go_ret
  exact ⟨rfl, hin2, hbut.trans (hbut2.mono hbut.size)⟩

set_option maxHeartbeats 400000 in
theorem err_any (b : Nat) (s : Codec.St) (w : World) (h : InAt w b s) :
    Calls Tryd.prog 48 #[.pointer (some ⟨b, 0, none⟩)] w fun e w' => e = .returned (.int .i64 s.2) ∧ w' = w := by
  have c1 := h.c1
  clear h
  go_enter Tryd.func48, Tryd.ntmps48
  go_wp2
  go_ret
  exact ⟨rfl, rfl⟩

set_option maxHeartbeats 400000 in
theorem len_any (b : Nat) (s : Codec.St) (w : World) (h : InAt w b s) :
    Calls Tryd.prog 49 #[.pointer (some ⟨b, 0, none⟩)] w fun e w' => e = .returned (.int .i64 (s.1.length : Nat)) ∧ w' = w := by
  have c0 := h.c0
  have hsz : (S s.1).size = s.1.length := S_size _
  have hlen := h.len
  clear h
  go_enter Tryd.func49, Tryd.ntmps49
  go_wp2
  go_ret
  exact ⟨rfl, rfl⟩

set_option maxHeartbeats 400000 in
theorem read_any (l : List UInt8) (w : World) (hl : l.length ≤ 1099511627776) :
    Calls Tryd.prog 45 #[.string (S l)] w fun e w' => e = .returned (.pointer (some ⟨w.heap.size, 0, none⟩)) ∧ InAt w' w.heap.size (l, 0) ∧ Below w.heap.size w w' ∧ w'.heap.size = w.heap.size + 1 := by
  go_enter Tryd.func45, Tryd.ntmps45
  go_wp2
  go_ret
  exact ⟨rfl, ⟨by simp, by simp, by simp, by simp, by simp, hl⟩, (Below.refl _ _).alloc (Nat.le_refl _) _, by simp⟩
end Go.Proofs.YtbmhmljbpjimoaaDoor
/- The contracts of an Out's U and Text; that codec answers what the document's examples say. -/
namespace Go.Proofs.YtbmhmljbpjimoaaDoor
open Go.RowKit
set_option linter.unusedVariables false
set_option maxRecDepth 100000

def encs (l : List Nat) : List UInt8 := l.flatMap Codec.enc
theorem encs_snoc (l : List Nat) (k : Nat) (h : k < l.length) : encs (l.take (k + 1)) = encs (l.take k) ++ Codec.enc l[k] := by
  rw [List.take_succ_eq_append_getElem h]; unfold encs; rw [List.flatMap_append]; congr 1; simp
theorem encs_length (l : List Nat) (hl : ∀ i (h : i < l.length), l[i] < 18446744073709551616) (k : Nat) (hk : k ≤ l.length) : (encs (l.take k)).length ≤ 9 * k := by
  induction k with
  | zero => simp [encs]
  | succ k ih =>
    rw [encs_snoc l k (by omega), List.length_append, Codec.enc_length]
    have h1 := ih (by omega)
    have h2 := Codec.blen_le l[k] (hl k (by omega))
    omega

/- Numbers in cells of a block that is foreign to the Out. -/
def Nums (w : World) (b : Nat) (a : Option Addr) (l : List Nat) (f : Nat → Value) : Prop :=
  ∀ i (hi : i < l.length), ∃ sb off, a = some ⟨sb, off, none⟩ ∧ sb < w.heap.size ∧ Foreign w b sb ∧ w.cell? ⟨sb, off + i, none⟩ = some (f l[i])

set_option maxHeartbeats 400000 in
theorem text_any (b : Nat) (l : List UInt8) (w : World) (h : OutAt w b l) :
    Calls Tryd.prog 55 #[.pointer (some ⟨b, 0, none⟩)] w fun e w' => e = .returned (.string (S l)) ∧ w' = w := by
  obtain ⟨ao, c, hcell, hown⟩ := h.cell
  have kb := bytes_text hown
  clear h hown
  go_enter Tryd.func55, Tryd.ntmps55
  go_wp2
  go_ret
  exact ⟨rfl, rfl⟩

theorem enc300 : Codec.enc 300 = [2, 1, 44] := by decide +kernel
theorem keyA : Codec.key [[97], []] = [97, 0, 1, 0, 1] := by decide +kernel
theorem minusOne : Codec.takeI ([1, 1], 0) = (-1, ([], 0)) := by decide +kernel

theorem foreign_new (w : World) (o : Obj) : Foreign ((w.alloc (.cells #[.slice none 0 0] 99)).alloc o) w.heap.size (w.heap.size + 1) := by
  refine ⟨by omega, fun v hv e => ?_⟩
  have : ((w.alloc (.cells #[.slice none 0 0] 99)).alloc o).cell? ⟨w.heap.size, 0, none⟩ = some (.slice none 0 0) := by
    rw [World.cell?_of_block (w := w.alloc (.cells #[.slice none 0 0] 99)) (a := ⟨w.heap.size, 0, none⟩) (Below.heap_alloc _ o _ (by simp))]
    simp
  rw [this] at hv
  injection hv with hv
  subst hv
  simp [Value.ownBlock] at e

theorem read_none (w : World) :
    Calls Tryd.prog 45 #[.string ⟨#[]⟩] w fun e w' => e = .returned (.pointer (some ⟨w.heap.size, 0, none⟩)) ∧ Below w.heap.size w w' := by
  refine (read_any [] w (by simp)).mono ?_
  rintro e w' ⟨rfl, _, hb, _⟩
  exact ⟨rfl, hb⟩
theorem read_one (w : World) :
    Calls Tryd.prog 45 #[.string ⟨#[1, 1]⟩] w fun e w' => e = .returned (.pointer (some ⟨w.heap.size, 0, none⟩)) ∧ InAt w' w.heap.size ([1, 1], 0) ∧ Below w.heap.size w w' ∧ w'.heap.size = w.heap.size + 1 :=
  read_any [1, 1] w (by simp)
end Go.Proofs.YtbmhmljbpjimoaaDoor
/- Plain mathematics: what is taken as a number is that number's one spelling. No program is named here. -/
namespace Codec

theorem be_add (k c m : Nat) : be k (c * 256 ^ k + m) = be k m := by
  unfold be
  apply List.map_congr_left
  intro j hj
  simp at hj
  have e : c * 256 ^ k = 256 ^ (k - 1 - j) * (c * 256 ^ j * 256) := by
    have : 256 ^ k = 256 ^ (k - 1 - j) * 256 ^ j * 256 := by
      rw [← Nat.pow_add, ← Nat.pow_succ]; congr 1; omega
    rw [this]
    simp only [Nat.mul_assoc, Nat.mul_left_comm]
  rw [e, Nat.mul_add_div (Nat.pow_pos (by decide)), Nat.add_comm, Nat.add_mul_mod_self_right]

theorem be_val (d : List UInt8) : be d.length (val d) = d := by
  induction d with
  | nil => rfl
  | cons c r ih =>
    rw [List.length_cons, val_cons, be_cons, be_add, ih]
    have h := val_lt r
    have e : (c.toNat * 256 ^ r.length + val r) / 256 ^ r.length = c.toNat := by
      rw [Nat.mul_comm, Nat.mul_add_div (Nat.pow_pos (by decide)), Nat.div_eq_of_lt h, Nat.add_zero]
    rw [e, Nat.mod_eq_of_lt c.toNat_lt, UInt8.ofNat_toNat]

theorem blen_val (c : UInt8) (r : List UInt8) (hc : c.toNat ≠ 0) (hr : (c :: r).length ≤ 8) : blen (val (c :: r)) = (c :: r).length := by
  have h1 := val_lt (c :: r)
  have hlt : val (c :: r) < 18446744073709551616 := Nat.lt_of_lt_of_le h1 (Nat.le_trans (Nat.pow_le_pow_right (by decide) hr) (by decide))
  have h2 : ¬ (c :: r).length < blen (val (c :: r)) := by
    intro h
    have := (left_iff _ _ hlt).2 h
    rw [Nat.div_eq_of_lt h1] at this
    omega
  have h3 : r.length < blen (val (c :: r)) := by
    apply (left_iff _ _ hlt).1
    apply Nat.div_pos _ (Nat.pow_pos (by decide))
    rw [val_cons]
    have : 1 * 256 ^ r.length ≤ c.toNat * 256 ^ r.length := Nat.mul_le_mul_right _ (by omega)
    omega
  simp only [List.length_cons] at *
  omega

theorem enc_val (c : UInt8) (r : List UInt8) (hc : c.toNat ≠ 0) (hr : (c :: r).length ≤ 8) : enc (val (c :: r)) = UInt8.ofNat (c :: r).length :: (c :: r) := by
  unfold enc
  rw [blen_val c r hc hr, be_val]

theorem fail_err (c : Int) (l : List UInt8) (hc : c ≠ 0) : fail c (l, 0) = ([], c) := by simp [fail, hc]

theorem enc_zero : enc 0 = [0] := by decide

/- Taken without an error: it was the number's bytes. -/
theorem takeU_one (l : List UInt8) : ((takeU (l, 0)).2.2 ≠ 0 → (takeU (l, 0)).1 = 0) ∧ ((takeU (l, 0)).2.2 = 0 → l = enc (takeU (l, 0)).1 ++ (takeU (l, 0)).2.1) := by
  cases l with
  | nil =>
    have e : takeU ([], 0) = (0, ([], 1)) := by decide
    rw [e]
    exact ⟨fun _ => rfl, fun h => by simp at h⟩
  | cons k r =>
    have t1 : take 1 (k :: r, 0) = ([k], (r, 0)) := by simp [take]
    by_cases hk : 8 < k.toNat
    · have s1 : size (k :: r, 0) = (0, ([], 2)) := by unfold size; rw [t1]; dsimp only; rw [if_pos hk, fail_err 2 r (by decide)]
      have d1 : digits (k :: r, 0) = ([], ([], 2)) := by unfold digits; rw [s1]; rfl
      have e : takeU (k :: r, 0) = (0, ([], 2)) := by unfold takeU; rw [d1]
      rw [e]
      exact ⟨fun _ => rfl, fun h => by simp at h⟩
    · have s1 : size (k :: r, 0) = (k.toNat, (r, 0)) := by unfold size; rw [t1]; dsimp only; rw [if_neg hk]
      by_cases hr : k.toNat ≤ r.length
      · have d1 : digits (k :: r, 0) = (r.take k.toNat, (r.drop k.toNat, 0)) := by unfold digits; rw [s1]; simp [take, hr]
        have hlen : (r.take k.toNat).length = k.toNat := by simp; omega
        have hcat : r = r.take k.toNat ++ r.drop k.toNat := (List.take_append_drop _ _).symm
        generalize r.take k.toNat = d at *
        generalize r.drop k.toNat = rest at *
        cases d with
        | nil =>
          have e : takeU (k :: r, 0) = (0, (rest, 0)) := by unfold takeU; rw [d1]
          rw [e]
          refine ⟨fun h => rfl, fun _ => ?_⟩
          have hk0 : k = 0 := UInt8.toNat_inj.1 (by simpa using hlen.symm)
          show k :: r = enc 0 ++ rest
          rw [enc_zero, hk0, hcat]
          simp
        | cons c q =>
          by_cases hc : c.toNat = 0
          · have e : takeU (k :: r, 0) = (0, ([], 2)) := by unfold takeU; rw [d1]; dsimp only; rw [if_pos hc, fail_err 2 _ (by decide)]
            rw [e]
            exact ⟨fun _ => rfl, fun h => by simp at h⟩
          · have e : takeU (k :: r, 0) = (val (c :: q), (rest, 0)) := by unfold takeU; rw [d1]; dsimp only; rw [if_neg hc]
            rw [e]
            refine ⟨fun h => absurd rfl h, fun _ => ?_⟩
            show k :: r = enc (val (c :: q)) ++ rest
            rw [enc_val c q hc (by omega), hlen, UInt8.ofNat_toNat, hcat]
            rfl
      · have d1 : digits (k :: r, 0) = ([], ([], 1)) := by unfold digits; rw [s1]; simp [take, hr, fail]
        have e : takeU (k :: r, 0) = (0, ([], 1)) := by unfold takeU; rw [d1]
        rw [e]
        exact ⟨fun _ => rfl, fun h => by simp at h⟩

end Codec
/- The contracts of Cut and of the reference's U; the walk of the law CodecOne: for every text the call returns true, and nothing that was there has turned. -/
namespace Go.Proofs.YtbmhmljbpjimoaaDoor
open Go.RowKit
set_option linter.unusedVariables false
set_option maxRecDepth 100000

theorem one_back (w : World) (a : UInt8) :
    (convert 46 9 (.slice (some ⟨w.heap.size, 0, none⟩) 1 1)).run Tryd.prog (w.alloc (.cells #[.int .u8 (a.toNat : Int)] 5)) =
      .ok (.string (S [a])) (w.alloc (.cells #[.int .u8 (a.toNat : Int)] 5)) := by
  refine run_convert_bytes_back _ 46 9 5 ⟨w.heap.size, 0, none⟩ 1 [a] under_bytes under_byte under_string ?_
  intro j hj
  simp at hj
  subst hj
  rw [plain_add]
  simp

theorem S_append (a b : List UInt8) : S a ++ S b = S (a ++ b) := by
  apply ByteArray.ext
  simp [S]

end Go.Proofs.YtbmhmljbpjimoaaDoor
/- Plain mathematics: numbers, whole numbers and texts there and back. No program is named here. -/
namespace Codec

def fold (k : Int) : Nat := if 0 ≤ k then (2 * k).toNat else (-2 * k - 1).toNat

theorem fold_lt (k : Int) (h1 : -9223372036854775808 ≤ k) (h2 : k ≤ 9223372036854775807) : fold k < 18446744073709551616 := by
  unfold fold; split <;> omega
theorem unfold_fold (k : Int) : unfold (fold k) = k := by
  unfold unfold fold
  by_cases h : 0 ≤ k
  · rw [if_pos h, if_neg (by omega)]; omega
  · rw [if_neg h, if_pos (by omega)]; omega

theorem takeU_enc (n : Nat) (rest : List UInt8) (hn : n < 18446744073709551616) : takeU (enc n ++ rest, 0) = (n, (rest, 0)) := by
  have h8 := blen_le n hn
  have hb : (UInt8.ofNat (blen n)).toNat = blen n := by rw [UInt8.toNat_ofNat']; omega
  have t1 : take 1 (enc n ++ rest, 0) = ([UInt8.ofNat (blen n)], (be (blen n) n ++ rest, 0)) := by simp [take, enc]
  have s1 : size (enc n ++ rest, 0) = (blen n, (be (blen n) n ++ rest, 0)) := by
    unfold size; rw [t1]; dsimp only; rw [if_neg (by omega), hb]
  have d1 : digits (enc n ++ rest, 0) = (be (blen n) n, (rest, 0)) := by
    unfold digits; rw [s1]
    have hl := be_length (blen n) n
    have hle : blen n ≤ (be (blen n) n ++ rest).length := by rw [List.length_append, hl]; omega
    simp only [take, if_pos hle]
    rw [List.take_left' hl, List.drop_left' hl]
  have hv := val_be_blen n hn
  by_cases h0 : n = 0
  · have e : be (blen n) n = [] := by rw [h0, blen_zero]; rfl
    unfold takeU; rw [d1, e, h0]
  · obtain ⟨h1, h2⟩ := blen_ge n hn h0
    obtain ⟨k, hk⟩ : ∃ k, blen n = k + 1 := ⟨blen n - 1, by omega⟩
    have e : be (blen n) n = UInt8.ofNat (n / 256 ^ k % 256) :: be k n := by rw [hk, be_cons]
    unfold takeU
    rw [d1]
    have hne : (UInt8.ofNat (n / 256 ^ k % 256)).toNat ≠ 0 := by
      rw [byte_of]
      have hlt := blen_lt n hn
      rw [hk, Nat.pow_succ] at hlt
      have : n / 256 ^ k < 256 := Nat.div_lt_of_lt_mul hlt
      rw [Nat.mod_eq_of_lt this]
      have : 0 < n / 256 ^ k := by
        rw [hk] at h2
        exact Nat.div_pos h2 (Nat.pow_pos (by decide))
      omega
    rw [hv]
    rw [e]
    dsimp only
    rw [if_neg hne]

theorem takeI_enc (k : Int) (rest : List UInt8) (h1 : -9223372036854775808 ≤ k) (h2 : k ≤ 9223372036854775807) : takeI (enc (fold k) ++ rest, 0) = (k, (rest, 0)) := by
  unfold takeI
  rw [takeU_enc _ _ (fold_lt k h1 h2)]
  dsimp only
  rw [unfold_fold]

def encS (s : List UInt8) : List UInt8 := enc s.length ++ s

theorem takeS_enc (s rest : List UInt8) (hs : s.length ≤ 40) : takeS 40 (encS s ++ rest, 0) = (s, (rest, 0)) := by
  have e : takeN 40 (encS s ++ rest, 0) = (s.length, (s ++ rest, 0)) := by
    unfold takeN encS
    rw [List.append_assoc, takeU_enc _ _ (by omega)]
    dsimp only
    rw [if_pos (by omega)]
  unfold takeS
  rw [e]
  simp [take]

theorem enc_short (n : Nat) (h : n < 18446744073709551616) : (enc n).length ≤ 9 := by
  have := blen_le n h
  rw [enc_length]; omega

end Codec
/- An append of a text's bytes to a row of the call's own, as one operation of a plain region. -/
namespace Go.Proofs.YtbmhmljbpjimoaaDoor
open Go.RowKit
set_option linter.unusedVariables false
set_option maxRecDepth 100000

theorem run_room_src {P : Program} (w : World) (t tx ty e : TypeId) (i : TypeInfo) (ht : P.underlying t = some (.slice e)) (hi : P.info? e = some i)
    (g sLen sCap : Nat) (cur : Array Value) (hg : w.heap[g]? = some (.cells cur e (0, 0)))
    (x : Value) (m : Nat) (news : List Value) (hs : Src P i.size tx x m news w)
    (hroom : sLen + m ≤ sCap) (hfit : sLen * i.size + news.length ≤ cur.size) :
    (Builtin.append_ #[t, tx] ty #[.slice (some ⟨g, 0, none⟩) sLen sCap, x]).run P w =
      .ok (.slice (some ⟨g, 0, none⟩) (sLen + m) sCap) (w.setRow g (cur.toList.take (sLen * i.size) ++ news ++ cur.toList.drop (sLen * i.size + news.length)).toArray) := by
  have hst := run_storeCells_at P g (sLen * i.size) e news 0 cur w hg (by simpa using hfit) hs.one
  simp only [Nat.add_zero] at hst
  rcases hs.kind with ⟨e', hk⟩ | hk <;> simp [Builtin.append_, run_underlying ht, run_underlying hk, sizeOf, typeInfo, hi, hs.len, hroom, hs.cells, Addr.add_lit, hst]

theorem run_append_src {P : Program} (w : World) (base : Nat) (t tx ty e : TypeId) (i : TypeInfo) (z : Value) (size bytes : Nat) (ht : P.underlying t = some (.slice e)) (hi : P.info? e = some i) (hz : i.zero = some z)
    (hsize : i.size = size) (hby : i.bytes = bytes) (hzs : z.cells.size = size) (hsz : 0 < size)
    (v : Value) (n : Nat) (xs : List Value) (hown : w.ownsRow base e size v n xs) (hn0 : v ≠ .slice none 0 0)
    (x : Value) (m : Nat) (news : List Value) (hs : Src P size tx x m news w)
    (h63 : n + m ≤ maxLen) (hbytes : (n + m) * bytes ≤ 140737488355328) (hbase : base ≤ w.heap.size) :
    ∃ v' w', (Builtin.append_ #[t, tx] ty #[v, x]).run P w = .ok v' w' ∧ w'.ownsRow base e size v' (n + m) (xs ++ news) ∧ w.grownBy w' v.ownBlock ∧
      (v'.ownBlock = v.ownBlock ∨ ∀ k, v'.ownBlock = some k → w.heap.size ≤ k) ∧ v' ≠ .slice none 0 0 := by
  subst hsize
  subst hby
  have hl := hs.newsLen
  have hlen : (xs ++ news).length = (n + m) * i.size := by rw [List.length_append, hown.1, hl, Nat.add_mul]
  rcases hown.2 with ⟨rfl, h0⟩ | ⟨g, cap, cur, rfl, hbg, hg, hnc, hcm, hcs, htake⟩
  · exact absurd rfl hn0
  · by_cases hroom : n + m ≤ cap
    · have hfit : n * i.size + news.length ≤ cur.size := by rw [hl, hcs, ← Nat.add_mul]; exact Nat.mul_le_mul_right _ hroom
      have hr := run_room_src (P := P) w t tx ty e i ht hi g n cap cur hg x m news hs hroom hfit
      refine ⟨_, _, hr, ⟨hlen, .inr ⟨g, cap, _, rfl, hbg, setRow_heap w g cur _ e _ hg, hroom, hcm, ?_, ?_⟩⟩, ⟨rfl, rfl, rfl, by simp, fun k _ hk => setRow_other w g k _ (fun e => hk (by simp [Value.ownBlock, e]))⟩, Or.inl rfl, by simp⟩
      · simp only [List.size_toArray, List.length_append, List.length_take, List.length_drop, Array.length_toList]
        omega
      · rw [htake, ← hlen]
        exact List.take_left
    · have holds : ∀ j u, xs[j]? = some u → w.cell? ((⟨g, 0, none⟩ : Addr).add j) = some u := hown.cells (g := g) rfl
      have hold := run_firstCells_some (P := P) w.drew i.size n ⟨g, 0, none⟩ n cap xs hown.1 (by simpa using holds)
      have hr := run_append_grow_src (P := P) w t tx ty e i z ht hi hz (some ⟨g, 0, none⟩) n cap xs hold x m news hs (by omega) (by unfold maxLen at h63; omega) (growslice_fits (by omega) hbytes)
      have hge := grownCap_ge w (n + m) cap e
      have hcm2 : grownCap w (n + m) cap e ≤ maxLen := grownCap_le_maxLen w (n + m) cap e h63
      refine ⟨_, _, hr, ⟨hlen, .inr ⟨w.heap.size, _, _, rfl, hbase, heap_alloc_new w.drew _, hge, hcm2, ?_, ?_⟩⟩, ⟨rfl, rfl, rfl, by simp, fun k hk _ => Below.heap_alloc w.drew _ k hk⟩, Or.inr fun k hk => ?_, by simp⟩
      · simp only [Array.size_append, List.size_toArray, List.length_append, size_zeroCells, hzs, hown.1, hl, ← Nat.add_mul]
        congr 1
        omega
      · simp only [Array.toList_append]
        rw [← hlen]
        exact List.take_left
      · simp [Value.ownBlock] at hk
        omega

theorem wpList_append_src {P : Program} {w : World} {ops : Array Oper} {rest : List Oper} {o : Oper} {a : Act} {Q : Exit → Act → World → Prop} (hgd : o.guard = none) (s x : Operand) (t tx : TypeId)
    (ho : o.op = .call { callee := .builtin .append, args := #[s, x], argTypes := #[t, tx] })
    (base : Nat) (e : TypeId) (i : TypeInfo) (z : Value) (size bytes : Nat) (ht : P.underlying t = some (.slice e)) (hi : P.info? e = some i) (hz : i.zero = some z)
    (hsize : i.size = size) (hby : i.bytes = bytes) (hzs : z.cells.size = size) (hsz : 0 < size)
    (v : Value) (n : Nat) (xs : List Value) (hs : a.eval s = v) (hown : w.ownsRow base e size v n xs) (hn0 : v ≠ .slice none 0 0)
    (y : Value) (m : Nat) (news : List Value) (hx : a.eval x = y) (hsrc : Src P size tx y m news w)
    (h63 : n + m ≤ maxLen) (hbytes : (n + m) * bytes ≤ 140737488355328) (hbase : base ≤ w.heap.size)
    (h : ∀ v' w', w'.ownsRow base e size v' (n + m) (xs ++ news) → w.grownBy w' v.ownBlock → (v'.ownBlock = v.ownBlock ∨ ∀ k, v'.ownBlock = some k → w.heap.size ≤ k) → v' ≠ .slice none 0 0 → wpList P ops Q rest (a.put o.dst v') w') : wpList P ops Q (o :: rest) a w := by
  refine wpList_plain hgd fun K hK => ?_
  obtain ⟨v', w', hr, h2, h3, h4, h5⟩ := run_append_src (P := P) w base t tx o.type e i z size bytes ht hi hz hsize hby hzs hsz v n xs hown hn0 y m news hsrc h63 hbytes hbase
  unfold Oper.wp execOp
  simp only [ho, resolve, invoke, builtin, Sem.run_bind, Sem.run_pure, Result.andThen_ok, List.map_toArray, List.map_cons, List.map_nil, hs, hx, hr]
  exact hK _ _ (h v' w' h2 h3 h4 h5)
end Go.Proofs.YtbmhmljbpjimoaaDoor
/- The contracts of an Out's whole numbers, numbers from 0 on and texts, and of the reference's. -/
namespace Go.Proofs.YtbmhmljbpjimoaaDoor
open Go.RowKit
set_option linter.unusedVariables false
set_option maxRecDepth 100000

theorem ones64 (n : Nat) (h : n < 2 ^ 64) : 18446744073709551615 ^^^ n = 18446744073709551615 - n := by
  apply Nat.eq_of_testBit_eq
  intro i
  have e : 18446744073709551615 - n = 2 ^ 64 - (n + 1) := by omega
  rw [e, Nat.testBit_two_pow_sub_succ h, Nat.testBit_xor, show 18446744073709551615 = 2 ^ 64 - 1 from by decide, Nat.testBit_two_pow_sub_one]
  by_cases hi : i < 64
  · simp [hi]
  · have : n.testBit i = false := Nat.testBit_lt_two_pow (Nat.lt_of_lt_of_le h (Nat.pow_le_pow_right (by omega) (by omega)))
    simp [hi, this]

theorem not_u64 (n : Nat) (h : n < 18446744073709551616) : bits .xor .u64 IntKind.u64.max (n : Int) = ((18446744073709551615 - n : Nat) : Int) := by
  have e := u64_xor_nat 18446744073709551615 n (by omega) h
  rw [ones64 n h] at e
  exact e

theorem fold_neg (k : Int) (h1 : -9223372036854775808 ≤ k) (h : k < 0) : bits .xor .u64 IntKind.u64.max (IntKind.u64.wrap (IntKind.u64.wrap k * 2)) = ((Codec.fold k : Nat) : Int) := by
  obtain ⟨m, hm⟩ := Int.eq_ofNat_of_zero_le (show 0 ≤ 2 * k + 18446744073709551616 by omega)
  have e : IntKind.u64.wrap (IntKind.u64.wrap k * 2) = (m : Int) := by
    rw [IntKind.wrap_u64, IntKind.wrap_u64]; omega
  rw [e, not_u64 m (by omega)]
  unfold Codec.fold
  rw [if_neg (by omega)]
  omega

/- Out.I, Out.N: as Out.U, each number made ahead. -/
def encI (l : List Int) : List UInt8 := l.flatMap fun k => Codec.enc (Codec.fold k)
def encN (l : List Int) : List UInt8 := l.flatMap fun k => Codec.enc (max k 0).toNat
theorem flat_snoc (g : Int → List UInt8) (l : List Int) (k : Nat) (h : k < l.length) : (l.take (k + 1)).flatMap g = (l.take k).flatMap g ++ g l[k] := by
  rw [List.take_succ_eq_append_getElem h, List.flatMap_append]; congr 1; simp
theorem flat_short (g : Int → List UInt8) (l : List Int) (hg : ∀ i (h : i < l.length), (g l[i]).length ≤ 9) (k : Nat) (hk : k ≤ l.length) : ((l.take k).flatMap g).length ≤ 9 * k := by
  induction k with
  | zero => simp
  | succ k ih =>
    rw [flat_snoc g l k (by omega), List.length_append]
    have h1 := ih (by omega)
    have h2 := hg k (by omega)
    omega
def Ints (w : World) (b : Nat) (a : Option Addr) (l : List Int) : Prop :=
  ∀ i (hi : i < l.length), ∃ sb off, a = some ⟨sb, off, none⟩ ∧ sb < w.heap.size ∧ Foreign w b sb ∧ w.cell? ⟨sb, off + i, none⟩ = some (.int .i64 l[i])

set_option maxHeartbeats 400000 in
theorem outN_any (b : Nat) (l : List UInt8) (ns : List Int) (a : Option Addr) (n cap : Nat) (w : World) (h : OutAt w b l) (hn : n = ns.length) (hn64 : ns.length ≤ 64) (hl : l.length ≤ 549755813888)
    (hns : ∀ i (h : i < ns.length), -9223372036854775808 ≤ ns[i] ∧ ns[i] ≤ 9223372036854775807) (hnum : Ints w b a ns) :
    Calls Tryd.prog 53 #[.pointer (some ⟨b, 0, none⟩), .slice a n cap] w fun e w' => e = .returned (.pointer (some ⟨b, 0, none⟩)) ∧ OutAt w' b (l ++ encN ns) ∧ Step b w w' := by
  have HNS := hide hns
  have HNUM := hide hnum
  have HN := hide hn
  have HH := hide h
  have hnn : n ≤ 64 := by omega
  clear hns hnum hn h
  go_enter Tryd.func53, Tryd.ntmps53
  go_wp2_with fail
  go_loopw [9] (fun i wr => ∃ k : Nat, k ≤ n ∧ i = .int .i64 k ∧ OutAt wr b (l ++ encN (ns.take k)) ∧ Step b w wr) (fun i _ => n - (intOf i).toNat)
  case atStart =>
    refine ⟨0, Nat.zero_le _, rfl, ?_, Step.refl _ _⟩
    have e : l ++ encN (ns.take 0) = l := by simp [encN]
    rw [e]
    exact unhide HH
  case round =>
    obtain ⟨k, hk, rfl, ho, hst⟩ := hrel
    have hel : (encN (ns.take k)).length ≤ 9 * k := flat_short _ ns (fun i hi => Codec.enc_short _ (by have := unhide HNS i hi; omega)) k (by have := unhide HN; omega)
    by_cases hlt : k < n
    · have hkl : k < ns.length := by have := unhide HN; omega
      obtain ⟨sb, off, ha, hblt, hfor, hcell⟩ := unhide HNUM k hkl
      subst ha
      rw [← World.cell?_of_block (w := w) (a := ⟨sb, off + k, none⟩) (hst.keep sb hblt hfor).1] at hcell
      have HES : Hid (encN (ns.take (k + 1)) = encN (ns.take k) ++ Codec.enc (max ns[k] 0).toNat) := flat_snoc _ ns k hkl
      obtain ⟨hr1, hr2⟩ := unhide HNS k hkl
      have HFO := hide (fun wx => nought_any ns[k] wx hr1 hr2)
      have HNB := hide (number_any b (max ns[k] 0).toNat (l ++ encN (ns.take k)) wr ho (by omega) (by rw [List.length_append]; omega))
      clear ho hr1 hr2
      generalize (max ns[k] 0).toNat = y at *
      generalize ns[k] = x at *
      go_wp2_with fail
      refine (unhide HFO _).mono ?_
      rintro e w1 ⟨rfl, rfl⟩
      go_wp2_with fail
      refine (unhide HNB).mono ?_
      rintro e w2 ⟨rfl, ho2, hst2⟩
      rw [List.append_assoc, ← unhide HES] at ho2
      have HO := hide ho2
      clear ho2 HNB
      go_wp2
      go_roundw
      case rel => exact ⟨k + 1, by omega, by go_num, unhide HO, hst.trans hst2⟩
      case measure => simp [intOf]; omega
    · have hkn : k = ns.length := by have := unhide HN; omega
      have e : ns.take k = ns := by rw [hkn]; exact List.take_length
      rw [e] at ho
      clear e
      go_wp2
      go_ret
      exact ⟨rfl, ho, hst⟩

def encT (l : List (List UInt8)) : List UInt8 := l.flatMap Codec.encS
theorem encT_snoc (l : List (List UInt8)) (k : Nat) (h : k < l.length) : encT (l.take (k + 1)) = encT (l.take k) ++ Codec.encS l[k] := by
  rw [List.take_succ_eq_append_getElem h]; unfold encT; rw [List.flatMap_append]; congr 1; simp
theorem encT_short (l : List (List UInt8)) (hl : ∀ i (h : i < l.length), l[i].length ≤ 1048576) (k : Nat) (hk : k ≤ l.length) : (encT (l.take k)).length ≤ 1048585 * k := by
  induction k with
  | zero => simp [encT]
  | succ k ih =>
    rw [encT_snoc l k (by omega), List.length_append]
    have h1 := ih (by omega)
    have h2 := hl k (by omega)
    have h3 : (Codec.encS l[k]).length = (Codec.enc l[k].length).length + l[k].length := by simp [Codec.encS]
    have h4 := Codec.enc_short l[k].length (by omega)
    omega
def Strs (w : World) (b : Nat) (a : Option Addr) (l : List (List UInt8)) : Prop :=
  ∀ i (hi : i < l.length), ∃ sb off, a = some ⟨sb, off, none⟩ ∧ sb < w.heap.size ∧ Foreign w b sb ∧ w.cell? ⟨sb, off + i, none⟩ = some (.string (S l[i]))

/- One number from 0 on, in a block of its own that was made just ahead. -/
theorem outN_one (b : Nat) (l : List UInt8) (x : Nat) (w : World) (h : OutAt w b l) (hl : l.length ≤ 549755813888) (hx : x ≤ 9223372036854775807) :
    Calls Tryd.prog 53 #[.pointer (some ⟨b, 0, none⟩), .slice (some ⟨w.heap.size, 0, none⟩) 1 1] (w.alloc (.cells #[.int .i64 (x : Int)] 3)) fun e w' =>
      e = .returned (.pointer (some ⟨b, 0, none⟩)) ∧ OutAt w' b (l ++ Codec.enc x) ∧ Step b w w' := by
  obtain ⟨ho, hst⟩ := h.later (w' := w.alloc (.cells #[.int .i64 (x : Int)] 3)) ((Below.refl _ _).alloc (Nat.le_refl _) _)
  have hfor : Foreign (w.alloc (.cells #[.int .i64 (x : Int)] 3)) b w.heap.size := by
    obtain ⟨ao, c, hc, hown⟩ := h.cell
    refine ⟨by have := h.lt; omega, fun v hv e => ?_⟩
    rw [World.cell?_of_block (w := w) (a := ⟨b, 0, none⟩) (Below.heap_alloc _ _ _ h.lt), hc] at hv
    injection hv with hv
    subst hv
    have := (hown.lt _ e).2
    omega
  have hN := outN_any b l [(x : Int)] (some ⟨w.heap.size, 0, none⟩) 1 1 _ ho rfl (by simp) hl (by intro i hi; simp at hi; subst hi; simp; omega)
    (by
      intro i hi
      simp at hi
      subst hi
      refine ⟨_, _, rfl, by simp, hfor, ?_⟩
      simp)
  refine hN.mono ?_
  rintro e w' ⟨rfl, h1, h2⟩
  have e : encN [(x : Int)] = Codec.enc x := by simp [encN]
  rw [e] at h1
  exact ⟨rfl, h1, hst.trans h2⟩

set_option maxHeartbeats 400000 in
theorem outS_any (b : Nat) (l : List UInt8) (ns : List (List UInt8)) (a : Option Addr) (n cap : Nat) (w : World) (h : OutAt w b l) (hn : n = ns.length) (hn64 : ns.length ≤ 64) (hl : l.length ≤ 274877906944)
    (hns : ∀ i (h : i < ns.length), ns[i].length ≤ 1048576) (hnum : Strs w b a ns) :
    Calls Tryd.prog 54 #[.pointer (some ⟨b, 0, none⟩), .slice a n cap] w fun e w' => e = .returned (.pointer (some ⟨b, 0, none⟩)) ∧ OutAt w' b (l ++ encT ns) ∧ Step b w w' := by
  obtain ⟨i0, hi, hz0, hz1, hz2⟩ := info_parts info_byte
  have HNS := hide hns
  have HNUM := hide hnum
  have HN := hide hn
  have HH := hide h
  have hnn : n ≤ 64 := by omega
  clear hns hnum hn h
  go_enter Tryd.func54, Tryd.ntmps54
  go_wp2_with fail
  go_loopw [9] (fun i wr => ∃ k : Nat, k ≤ n ∧ i = .int .i64 k ∧ OutAt wr b (l ++ encT (ns.take k)) ∧ Step b w wr) (fun i _ => n - (intOf i).toNat)
  case atStart =>
    refine ⟨0, Nat.zero_le _, rfl, ?_, Step.refl _ _⟩
    have e : l ++ encT (ns.take 0) = l := by simp [encT]
    rw [e]
    exact unhide HH
  case round =>
    obtain ⟨k, hk, rfl, ho, hst⟩ := hrel
    have hel := encT_short ns (unhide HNS) k (by have := unhide HN; omega)
    by_cases hlt : k < n
    · have hkl : k < ns.length := by have := unhide HN; omega
      obtain ⟨sb, off, ha, hblt, hfor, hcell⟩ := unhide HNUM k hkl
      subst ha
      rw [← World.cell?_of_block (w := w) (a := ⟨sb, off + k, none⟩) (hst.keep sb hblt hfor).1] at hcell
      have hxl := unhide HNS k hkl
      have HES := hide (encT_snoc ns k hkl)
      have hll : (l ++ encT (ns.take k)).length ≤ 274877906944 + 67109440 := by rw [List.length_append]; omega
      have hsz : (S ns[k]).size = ns[k].length := S_size _
      have HN1 := hide (outN_one b (l ++ encT (ns.take k)) ns[k].length wr ho (by omega) (by omega))
      clear ho
      generalize ns[k] = x at *
      go_wp2_with fail
      refine (unhide HN1).mono ?_
      rintro e w2 ⟨rfl, ho2, hst2⟩
      have HO2 := hide ho2
      obtain ⟨ao, c, hcell2, hown2⟩ := ho2.cell
      have hfr2 := ho2.frozen
      have hes := Codec.enc_short x.length (by omega)
      have hll2 : (l ++ encT (ns.take k) ++ Codec.enc x.length).length ≤ 274877906944 + 67109449 := by rw [List.length_append]; omega
      have hne : (l ++ encT (ns.take k) ++ Codec.enc x.length).length ≠ 0 := by rw [List.length_append, Codec.enc_length]; omega
      have hb2 := ho2.lt
      have HOWN2 := hide hown2
      have HC2 := hide hcell2
      have hsrc := Src.ofString (P := Tryd.prog) w2 under_string (S x)
      rw [hsz] at hsrc
      have HSRC := hide hsrc
      have hl4 : l ++ encT (ns.take (k + 1)) = l ++ encT (ns.take k) ++ Codec.enc x.length ++ x := by
        rw [unhide HES]; simp [Codec.encS]
      have HL4 := hide hl4
      clear ho2 hown2 hsrc hl4 hes
      generalize l ++ encT (ns.take k) ++ Codec.enc x.length = l2 at *
      go_wp2_with (first | (at_builtin; refine wpList_append_src rfl _ _ 46 9 rfl (b + 1) 5 i0 (.int .u8 0) 1 1 under_bytes hi hz0 hz1 hz2 rfl (by decide) _ _ _ rfl (unhide HOWN2) (by intro e; injection e with e1 e2 e3; exact hne e2) _ _ _ rfl (unhide HSRC) ?c3 ?c4 ?c5 ?_) | fail)
      case c3 => unfold maxLen; omega
      case c4 => omega
      case c5 => omega
      intro v' w3 hown' hgrow hfresh _
      have hgr := (unhide HO2).grow0 (Below.refl _ _) (unhide HOWN2) hgrow
      have HPUT := hide ((unhide HO2).put0 (Below.refl _ _) (unhide HC2) (unhide HOWN2) hgrow (ys := x) hown' hfresh)
      obtain ⟨hf3, hc3, _⟩ := hgr
      rw [unhide HC2] at hc3
      obtain ⟨a3, c3, rfl, _⟩ := ownsRow_slice hown'
      clear hown' hgrow hfresh hcell2 hfr2
      obtain ⟨ho3, hst3⟩ := unhide HPUT
      rw [← unhide HL4] at ho3
      have HO3 := hide ho3
      have HB3 := hide ((hst.trans hst2).trans hst3)
      clear ho3 hst3 HPUT
      go_wp2
      go_roundw
      case rel => exact ⟨k + 1, by omega, by go_num, unhide HO3, unhide HB3⟩
      case measure => simp [intOf]; omega
    · have hkn : k = ns.length := by have := unhide HN; omega
      have e : ns.take k = ns := by rw [hkn]; exact List.take_length
      rw [e] at ho
      clear e
      go_wp2
      go_ret
      exact ⟨rfl, ho, hst⟩
end Go.Proofs.YtbmhmljbpjimoaaDoor
