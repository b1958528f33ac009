/- What DevicePlays keeps from round to round: the device, the reference's in its box, the call in its box. -/
import Derived.Test.YtbggjkokfbcbcaaDRef6
import Derived.Test.YtbggjkokfbcbcaaDIs
import Derived.Test.YtbggjkokfbcbcaaDActs
namespace Go.Proofs.Ytbggjkokfbcbcaa
open Go.RowKit
set_option linter.unusedVariables false

/- Small, and well formed. -/
structure Sm (n i : Nat) (d : Dev) : Prop where
  ok : d.Ok
  len : d.L.length = n
  calls : d.calls ≤ i
  few : d.W.length ≤ i
  left : d.left < 9223372036854775808
theorem Sm.begin {n i : Nat} {d : Dev} (h : Sm n i d) : Sm n (i + 1) d.begin := by
  have h1 := h.len
  have h2 := h.calls
  have h3 := h.few
  have h4 := h.left
  unfold Dev.begin
  split
  · exact ⟨⟨h.ok.has, h.ok.some⟩, h1, by show d.calls ≤ _; omega, by show d.W.length ≤ _; omega, h4⟩
  · refine ⟨⟨h.ok.has, h.ok.some⟩, h1, by show d.calls + 1 ≤ _; omega, by show d.W.length ≤ _; omega, ?_⟩
    show (if d.armed then d.left - 1 else d.left) < _
    split <;> omega
theorem begin_L (d : Dev) : d.begin.L = d.L := by unfold Dev.begin; split <;> rfl
theorem begin_W (d : Dev) : d.begin.W = d.W := by unfold Dev.begin; split <;> rfl
theorem Sm.mono {n i j : Nat} {d : Dev} (h : Sm n i d) (hj : i ≤ j) : Sm n j d := ⟨h.ok, h.len, Nat.le_trans h.calls hj, Nat.le_trans h.few hj, h.left⟩
theorem Sm.write {n i : Nat} {d : Dev} (h : Sm n i d) (k : Int) (s : List UInt8) : Sm n (i + 1) (d.write k s) := by
  have hb := h.begin
  unfold Dev.write
  split
  · exact h.mono (by omega)
  · rename_i hno
    split
    · exact hb
    · refine ⟨⟨fun x hx => ?_, hb.ok.some⟩, hb.len, hb.calls, ?_, hb.left⟩
      · have hx' : x ∈ d.W ++ [(k.toNat, whole s)] := hx
        simp at hx'
        show x.1 < d.begin.L.length
        rw [begin_L]
        rcases hx' with hx' | rfl
        · exact h.ok.has x hx'
        · unfold Dev.no at hno; simp; omega
      · have := h.few
        show (d.W ++ [(k.toNat, whole s)]).length ≤ i + 1
        simp; omega
theorem Sm.flush {n i : Nat} {d : Dev} (h : Sm n i d) : Sm n (i + 1) d.flush := by
  have hb := h.begin
  unfold Dev.flush
  split
  · exact hb
  · refine ⟨⟨fun x hx => (by cases hx), ?_⟩, ?_, hb.calls, by simp, hb.left⟩
    · show 0 < (lay d.L d.W).length
      rw [lay_length]; exact h.ok.some
    · show (lay d.L d.W).length = n
      rw [lay_length]; exact h.len
theorem Sm.crash {n i : Nat} {d : Dev} (h : Sm n i d) (keep : List Int) : Sm n i (d.crash keep) := by
  refine ⟨⟨fun x hx => (by cases hx), ?_⟩, ?_, h.calls, by simp [Dev.crash], by simp [Dev.crash]⟩
  · show 0 < (lay d.L _).length
    rw [lay_length]; exact h.ok.some
  · show (lay d.L _).length = n
    rw [lay_length]; exact h.len
theorem Sm.arm {n i : Nat} {d : Dev} (h : Sm n i d) (k : Int) (hk : k ≤ 9223372036854775807) : Sm n i (d.arm k) := ⟨⟨h.ok.has, h.ok.some⟩, h.len, h.calls, h.few, by show k.toNat < _; omega⟩
theorem Sm.spoil {n i : Nat} {d : Dev} (h : Sm n i d) (k : Int) (s : List UInt8) : Sm n i (d.spoil k s) := by
  unfold Dev.spoil
  split
  · exact h
  · exact ⟨⟨fun x hx => by show x.1 < (d.L.set _ _).length; rw [List.length_set]; exact h.ok.has x hx, by show 0 < (d.L.set _ _).length; rw [List.length_set]; exact h.ok.some⟩, by show (d.L.set _ _).length = n; rw [List.length_set]; exact h.len, h.calls, h.few, h.left⟩
theorem Sm.new (n : Nat) (h : 1 ≤ n) : Sm n 0 (Dev.new n) := ⟨⟨fun x hx => (by cases hx), by simp [Dev.new]; omega⟩, by simp [Dev.new], Nat.le_refl _, Nat.le_refl _, by simp [Dev.new]⟩
theorem rleft_arm (d : Dev) (k : Int) : rleft (d.arm k) = max k (-1) := by
  unfold rleft Dev.arm
  by_cases h : 0 ≤ k
  · simp [h]; omega
  · simp [h]; omega

section
variable {w0 wr w2 : World} {b X : Nat} {d d' r r' : Dev} {lv cv lv' cv' : Value} {at'' : Int}
/- The device d, the reference's r. -/
structure PS (w0 wr : World) (b X : Nat) (d r : Dev) (lv cv : Value) : Prop where
  dev : DevAt w0.heap.size wr b d
  box : wr.heap[X]? = some (.cells #[lv, cv, .int .i64 (rleft r), .bool r.down, .int .i64 (r.calls : Int)] 31 (0, 0))
  ref : RIs w0.heap.size wr lv cv r
  far : DFor wr b X
  farL : ∀ k, lv.ownBlock = some k → DFor wr b k
  farC : ∀ k, cv.ownBlock = some k → DFor wr b k
  below : Below w0.heap.size w0 wr
  lo : w0.heap.size ≤ X
theorem PS.step (h : PS w0 wr b X d r lv cv) (hd : DevAt w0.heap.size w2 b d') (hs : DStep b wr w2) : PS w0 w2 b X d' r lv cv := by
  have lt : ∀ {v : Value} {n : Nat} {t : TypeId} {sz : Nat} {xs : List Value} (ho : wr.ownsRow w0.heap.size t sz v n xs) k, v.ownBlock = some k → k < wr.heap.size := fun ho k hk => (ho.lt k hk).2
  refine ⟨hd, (hs.keep X (block_lt h.box) h.far).1.trans h.box, ⟨ownsRow_same h.ref.sec fun k hk => (hs.keep k (lt h.ref.sec k hk) (h.farL k hk)).1, ownsRow_same h.ref.loo fun k hk => (hs.keep k (lt h.ref.loo k hk) (h.farC k hk)).1⟩, (hs.keep X (block_lt h.box) h.far).2, fun k hk => (hs.keep k (lt h.ref.sec k hk) (h.farL k hk)).2, fun k hk => (hs.keep k (lt h.ref.loo k hk) (h.farC k hk)).2, ?_, h.lo⟩
  exact h.below.trans (hs.below h.dev h.below.size)
theorem PS.quiet (h : PS w0 wr b X d r lv cv) (hb : Below wr.heap.size wr w2) : PS w0 w2 b X d r lv cv := h.step (h.dev.later hb).1 (h.dev.later hb).2
theorem PS.nb (h : PS w0 wr b X d r lv cv) : X ≠ b := h.far.ne
/- The reference's device is another. -/
theorem PS.put (h : PS w0 wr b X d r lv cv) (hb : Below wr.heap.size wr w2) (hr : RIs w0.heap.size w2 lv' cv' r') (hl : ∀ k, lv'.ownBlock = some k → lv.ownBlock = some k ∨ wr.heap.size ≤ k) (hc : ∀ k, cv'.ownBlock = some k → cv.ownBlock = some k ∨ wr.heap.size ≤ k) :
    PS w0 (put5 w2 X lv' cv' (.int .i64 (rleft r')) (.bool r'.down) (.int .i64 (r'.calls : Int))) b X d r' lv' cv' := by
  have h2 := h.quiet hb
  have hob : (put5 w2 X lv' cv' (.int .i64 (rleft r')) (.bool r'.down) (.int .i64 (r'.calls : Int))).heap[b]? = w2.heap[b]? := put5_other _ _ _ _ _ (fun e => h2.far.ne e.symm)
  have fl : ∀ k, lv'.ownBlock = some k → DFor w2 b k := fun k hk => by
    rcases hl k hk with e | e
    · exact h2.farL k e
    · exact (DFor.new h.dev e).same (hb.block b h.dev.lt)
  have fc : ∀ k, cv'.ownBlock = some k → DFor w2 b k := fun k hk => by
    rcases hc k hk with e | e
    · exact h2.farC k e
    · exact (DFor.new h.dev e).same (hb.block b h.dev.lt)
  have nl : ∀ k, lv'.ownBlock = some k → k ≠ X := fun k hk e => ownsRow_unlike hr.sec h2.box (by decide) (by rw [hk, e])
  have nc : ∀ k, cv'.ownBlock = some k → k ≠ X := fun k hk e => ownsRow_unlike hr.loo h2.box (by decide) (by rw [hk, e])
  refine ⟨?_, put5_same h2.box, ⟨ownsRow_same hr.sec fun k hk => put5_other _ _ _ _ _ (nl k hk), ownsRow_same hr.loo fun k hk => put5_other _ _ _ _ _ (nc k hk)⟩, h2.far.same hob, fun k hk => (fl k hk).same hob, fun k hk => (fc k hk).same hob, below_put5 h2.below h.lo _ _ _ _ _, h.lo⟩
  obtain ⟨sv, lw, hd⟩ := h2.dev
  exact ⟨sv, lw, hd.same hob (fun k hk => put5_other _ _ _ _ _ (fun e => h2.far.sec sv hd.c0 (by rw [hk, e]))) (fun k hk => put5_other _ _ _ _ _ (fun e => h2.far.loo lw hd.c1 (by rw [hk, e])))⟩

/- The reference's device is armed. -/
theorem PS.left (h : PS w0 wr b X (d.arm at'') d lv cv) (z : Int) (hz : at'' = z := by rfl) : PS w0 (wr.setCell ⟨X, 2, none⟩ (.int .i64 (max z (-1)))) b X (d.arm z) (d.arm z) lv cv := by
  subst hz
  have ho : ∀ j, j ≠ X → (wr.setCell ⟨X, 2, none⟩ (.int .i64 (max at'' (-1)))).heap[j]? = wr.heap[j]? := fun j hj => heap_setCell_other wr ⟨X, 2, none⟩ j _ hj
  have hob := ho b (fun e => h.far.ne e.symm)
  refine ⟨?_, ?_, ⟨ownsRow_same h.ref.sec fun k hk => ho k (fun e => ownsRow_unlike h.ref.sec h.box (by decide) (by rw [hk, e])), ownsRow_same h.ref.loo fun k hk => ho k (fun e => ownsRow_unlike h.ref.loo h.box (by decide) (by rw [hk, e]))⟩, h.far.same hob, fun k hk => (h.farL k hk).same hob, fun k hk => (h.farC k hk).same hob, h.below.setCell (p := ⟨X, 2, none⟩) h.lo _, h.lo⟩
  · obtain ⟨sv, lw, hd⟩ := h.dev
    exact ⟨sv, lw, hd.same hob (fun k hk => ho k (fun e => h.far.sec sv hd.c0 (by rw [hk, e]))) (fun k hk => ho k (fun e => h.far.loo lw hd.c1 (by rw [hk, e])))⟩
  · have := heap_setCell_same wr X 2 _ _ (.int .i64 (max at'' (-1))) h.box
    rw [rleft_arm]
    show _ = some (Obj.cells #[lv, cv, .int .i64 (max at'' (-1)), .bool d.down, .int .i64 (d.calls : Int)] _ _)
    simpa [Array.setIfInBounds] using this

/- The reference's sectors are others. -/
theorem PS.putL (h : PS w0 wr b X d r lv cv) (hb : Below wr.heap.size wr w2) (hr : RIs w0.heap.size w2 lv' cv r') (hl : ∀ k, lv'.ownBlock = some k → wr.heap.size ≤ k) (he : rleft r' = rleft r ∧ r'.down = r.down ∧ r'.calls = r.calls) :
    PS w0 (w2.setCell ⟨X, 0, none⟩ lv') b X d r' lv' cv := by
  have h2 := h.quiet hb
  have ho : ∀ j, j ≠ X → (w2.setCell ⟨X, 0, none⟩ lv').heap[j]? = w2.heap[j]? := fun j hj => heap_setCell_other w2 ⟨X, 0, none⟩ j _ hj
  have hob := ho b (fun e => h2.far.ne e.symm)
  have fl : ∀ k, lv'.ownBlock = some k → DFor w2 b k := fun k hk => (DFor.new h.dev (hl k hk)).same (hb.block b h.dev.lt)
  have nl : ∀ k, lv'.ownBlock = some k → k ≠ X := fun k hk e => ownsRow_unlike hr.sec h2.box (by decide) (by rw [hk, e])
  have nc : ∀ k, cv.ownBlock = some k → k ≠ X := fun k hk e => ownsRow_unlike hr.loo h2.box (by decide) (by rw [hk, e])
  refine ⟨?_, ?_, ⟨ownsRow_same hr.sec fun k hk => ho k (nl k hk), ownsRow_same hr.loo fun k hk => ho k (nc k hk)⟩, h2.far.same hob, fun k hk => (fl k hk).same hob, fun k hk => (h2.farC k hk).same hob, h2.below.setCell (p := ⟨X, 0, none⟩) h.lo _, h.lo⟩
  · obtain ⟨sv, lw, hd⟩ := h2.dev
    exact ⟨sv, lw, hd.same hob (fun k hk => ho k (fun e => h2.far.sec sv hd.c0 (by rw [hk, e]))) (fun k hk => ho k (fun e => h2.far.loo lw hd.c1 (by rw [hk, e])))⟩
  · have := heap_setCell_same w2 X 0 _ _ lv' h2.box
    rw [he.1, he.2.1, he.2.2]
    simpa [Array.setIfInBounds] using this

/- The call in its box. -/
structure AS (w0 wr : World) (b X A : Nat) (kind at' : Int) (s : List UInt8) (kv : Value) : Prop where
  box : wr.heap[A]? = some (.cells #[.int .i64 kind, .int .i64 at', .string (S s), kv] 35 (0, 0))
  far : DFor wr b A
  ne : A ≠ X
  lo : w0.heap.size ≤ A
variable {A : Nat} {kind at' : Int} {s : List UInt8} {kv : Value}
theorem AS.step (h : AS w0 wr b X A kind at' s kv) (hs : DStep b wr w2) : AS w0 w2 b X A kind at' s kv := ⟨(hs.keep A (block_lt h.box) h.far).1.trans h.box, (hs.keep A (block_lt h.box) h.far).2, h.ne, h.lo⟩
theorem AS.cells (h : AS w0 wr b X A kind at' s kv) : wr.cell? ⟨A, 0, none⟩ = some (.int .i64 kind) ∧ wr.cell? ⟨A, 1, none⟩ = some (.int .i64 at') ∧ wr.cell? ⟨A, 2, none⟩ = some (.string (S s)) ∧ wr.cell? ⟨A, 3, none⟩ = some kv := by
  refine ⟨?_, ?_, ?_, ?_⟩ <;> rw [block_cell h.box] <;> rfl
end
theorem pl_and_mask (n : Int) (k : Nat) (m : Int) (hk : k < 63) (hm : (BitVec.ofInt 64 m).toNat = 2 ^ k - 1) : bits .and .i64 n m = n % (2 ^ k : Nat) := by
  have key : (BitVec.ofInt 64 n &&& BitVec.ofInt 64 m).toNat = (n % ((2 ^ 64 : Nat) : Int)).toNat % 2 ^ k := by
    rw [BitVec.toNat_and, BitVec.toNat_ofInt, hm, Nat.and_two_pow_sub_one_eq_mod]
  show IntKind.i64.wrap ((BitVec.ofInt 64 n &&& BitVec.ofInt 64 m).toNat : Nat) = n % (2 ^ k : Nat)
  have hlt : (n % ((2 ^ 64 : Nat) : Int)).toNat % 2 ^ k < 2 ^ 63 := Nat.lt_trans (Nat.mod_lt _ (Nat.two_pow_pos k)) (Nat.pow_lt_pow_right (by omega) hk)
  rw [key, IntKind.wrap_i64]
  have hd : (2 ^ 64 : Nat) = 2 ^ k * 2 ^ (64 - k) := by rw [← Nat.pow_add]; congr 1; omega
  have h1 : (((n % ((2 ^ 64 : Nat) : Int)).toNat % 2 ^ k : Nat) : Int) = n % (2 ^ k : Nat) := by
    rw [Int.natCast_emod, Int.toNat_of_nonneg (Int.emod_nonneg _ (by simp)), hd, Int.natCast_mul, Int.emod_emod_of_dvd _ ⟨_, rfl⟩]
  rw [h1]
  have h2 : (n % (2 ^ k : Nat)) < 9223372036854775808 := by
    have : (2 : Nat) ^ 63 = 9223372036854775808 := by decide
    rw [← h1]; omega
  have h3 : 0 ≤ n % (2 ^ k : Nat) := by rw [← h1]; omega
  omega

end Go.Proofs.Ytbggjkokfbcbcaa
