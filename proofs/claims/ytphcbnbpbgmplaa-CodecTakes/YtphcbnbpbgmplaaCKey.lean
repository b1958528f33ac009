/- The contracts of codec's Key: the bytes of the parts' key, in new memory. -/
import Derived.Test.YtphcbnbpbgmplaaCIn
import Derived.Test.YtphcbnbpbgmplaaCKeyMath
import Derived.Test.YtphcbnbpbgmplaaCOut
namespace Go.Proofs.Ytphcbnbpbgmplaa
open Go.RowKit
set_option linter.unusedVariables false

/- The text of an owned row of bytes. -/
theorem bytes_text {w : World} {base : Nat} {v : Value} {l : List UInt8} (h : w.ownsRow base 5 1 v l.length (B8 l)) :
    (convert 37 9 v).run Try.prog w = .ok (.string (S l)) w := by
  rcases h.2 with ⟨rfl, hn⟩ | ⟨g, cap, cur, rfl, hb, hg, hnc, hcm, hcs, ht⟩
  · have : l = [] := List.length_eq_zero_iff.1 hn
    subst this
    exact run_convert_bytes_nil w 37 5 under_bytes under_byte 0 0 9 under_string
  · refine run_convert_bytes_back w 37 9 5 ⟨g, 0, none⟩ cap l under_bytes under_byte under_string ?_
    intro j hj
    rw [plain_add, Nat.zero_add, h.cellAt j (by omega)]
    simp [B8, hj]

/- A row of bytes of the call's own, apart from block g, which is as it was in w0. -/
structure RowAt (w0 wr : World) (base g : Nat) (v : Value) (l : List UInt8) : Prop where
  own : wr.ownsRow base 5 1 v l.length (B8 l)
  apart : v.ownBlock ≠ some g
  kept : wr.heap[g]? = w0.heap[g]?
  lt : g < wr.heap.size
  base_le : base ≤ wr.heap.size
  below : Below base w0 wr

theorem RowAt.grow {w0 wr w1 : World} {base g : Nat} {v v' : Value} {l ys : List UInt8} {o : Obj} (h : RowAt w0 wr base g v l)
    (hown : w1.ownsRow base 5 1 v' (l.length + ys.length) (B8 l ++ B8 ys)) (hg : (wr.alloc o).grownBy w1 v.ownBlock)
    (hfr : v'.ownBlock = v.ownBlock ∨ ∀ k, v'.ownBlock = some k → wr.heap.size ≤ k) : RowAt w0 w1 base g v' (l ++ ys) := by
  have hlt := h.lt
  have hb := h.base_le
  have hsz := hg.size
  simp at hsz
  have hlo := h.own.lt
  refine ⟨by rw [B8_append, List.length_append]; exact hown, ?_, ?_, by omega, by omega, ?_⟩
  · rcases hfr with e | e
    · rw [e]; exact h.apart
    · intro ek
      have := e g ek
      omega
  · rw [hg.block g (by simp; omega) (fun e => h.apart e.symm), Below.heap_alloc _ _ _ hlt]; exact h.kept
  · exact (h.below.alloc hb o).grown hg (by simp; omega) (fun k hk => (hlo k hk).1)

theorem two_new (w : World) (a b : Value) (t : TypeId) : ∀ j u, [a, b][j]? = some u → (w.alloc (.cells #[a, b] t)).cell? ((⟨w.heap.size, 0, none⟩ : Addr).add j) = some u := by
  intro j u hu
  rw [plain_add, Nat.zero_add]
  match j, hu with
  | 0, hu => simp at hu; subst hu; simp
  | 1, hu => simp at hu; subst hu; simp

set_option maxHeartbeats 400000 in
theorem appendPart_any (p l : List UInt8) (base : Nat) (v : Value) (w : World) (hp : p.length ≤ 1048576) (hl : l.length ≤ 1099511627776)
    (hown : w.ownsRow base 5 1 v l.length (B8 l)) (hbase : base ≤ w.heap.size) :
    Calls Try.prog 42 #[v, .string (S p)] w fun e w' => ∃ v', e = .returned v' ∧ w'.ownsRow base 5 1 v' (l ++ Codec.encPart p).length (B8 (l ++ Codec.encPart p)) ∧ Below base w w' ∧ base ≤ w'.heap.size := by
  obtain ⟨i0, hi, hz0, hz1, hz2⟩ := info_parts info_byte
  have hsz : (S p).size = p.length := S_size p
  have kc := fun (wx : World) => run_bytes_of_string (P := Try.prog) wx 9 37 5 (S p) under_string under_bytes under_byte
  rw [hsz] at kc
  have HOWN := hide hown
  clear hown
  go_enter Try.func42, Try.ntmps42
  go_wp2_with fail
  clear kc
  go_loopw [0, 10] (fun x i wr => ∃ k : Nat, k ≤ p.length ∧ i = .int .i64 k ∧ RowAt ((w.alloc (Obj.cells (bytesRow (S p) (grownCap w p.length 0 5)) 5 ((bytesRow (S p) (grownCap w p.length 0 5)).size, (bytesRow (S p) (grownCap w p.length 0 5)).size + 1))).drew) wr base w.heap.size x (l ++ Codec.esc (p.take k))) (fun _ i _ => p.length - (intOf i).toNat)
  case atStart =>
    refine ⟨0, Nat.zero_le _, rfl, ⟨?_, ?_, rfl, by simp, by simp; omega, Below.refl _ _⟩⟩
    · have e : l ++ Codec.esc (p.take 0) = l := by simp [Codec.esc]
      rw [e]
      exact ((unhide HOWN).alloc _).drew
    · intro e
      have := ((unhide HOWN).lt _ e).2
      omega
  case round =>
    obtain ⟨k, hk, rfl, hr⟩ := hrel
    have hel := Codec.esc_length (p.take k)
    have hll : (l ++ Codec.esc (p.take k)).length ≤ 1099511627776 + 2097152 := by
      rw [List.length_append]; rw [List.length_take] at hel; omega
    by_cases hlt : k < p.length
    · have hcell : wr.cell? ⟨w.heap.size, k, none⟩ = some (.int .u8 (p[k].toNat : Int)) := by
        rw [World.cell?_of_block (w := _) (a := ⟨w.heap.size, k, none⟩) hr.kept]
        exact bytes_cell w (S p) _ _ k (by rw [hsz]; exact hlt)
      have HSN := hide (Codec.esc_snoc p k hlt)
      have HR := hide hr
      clear hr HOWN hel
      generalize p[k] = c at *
      generalize hl2 : l ++ Codec.esc (p.take k) = l2 at *
      have HL2 := hide hl2
      clear hl2
      by_cases hc : c.toNat = 0
      · have hc0 : ((c.toNat : Int) == 0) = true := by rw [beq_iff_eq]; omega
        have HC := hide hc
        clear hc
        go_wp2_with (first | (at_builtin; refine wpList_append_fresh rfl _ _ 37 rfl base 5 i0 (.int .u8 0) 1 1 under_bytes hi hz0 hz1 hz2 rfl (by decide) _ _ _ rfl ((unhide HR).own.alloc _) ⟨wr.heap.size, 0, none⟩ 1 1 [.int .u8 (c.toNat : Int)] rfl rfl (cell_one_new _ _ _) ?c2 ?c3 ?c4 ?c5 ?_) | fail)
        case c2 => intro u hu; simp at hu; subst hu; rfl
        case c3 => unfold maxLen; omega
        case c4 => omega
        case c5 => have := (unhide HR).base_le; simp; omega
        intro v1 w1 hown1 hgrow1 hfresh1
        have hr1 := (unhide HR).grow (ys := [c]) hown1 hgrow1 (fresh_of hfresh1 (by simp))
        clear hown1 hgrow1 hfresh1 HR hcell
        have hl3 : (l2 ++ [c]).length ≤ 1099511627776 + 2097153 := by simp; omega
        have HR := hide hr1
        clear hr1
        go_wp2_with (first | (at_builtin; refine wpList_append_fresh rfl _ _ 37 rfl base 5 i0 (.int .u8 0) 1 1 under_bytes hi hz0 hz1 hz2 rfl (by decide) _ _ _ rfl ((unhide HR).own.alloc _) ⟨w1.heap.size, 0, none⟩ 1 1 [.int .u8 255] rfl rfl (cell_one_new _ _ _) ?c2 ?c3 ?c4 ?c5 ?_) | fail)
        case c2 => intro u hu; simp at hu; subst hu; rfl
        case c3 => unfold maxLen; omega
        case c4 => omega
        case c5 => have := (unhide HR).base_le; simp; omega
        intro v2 w2 hown2 hgrow2 hfresh2
        have hr2 := (unhide HR).grow (ys := [255]) (by rw [List.length_append]; exact hown2) hgrow2 (fresh_of hfresh2 (by simp))
        clear hown2 hgrow2 hfresh2 HR
        have e : l ++ Codec.esc (p.take (k + 1)) = l2 ++ [c] ++ [255] := by
          rw [unhide HSN, if_pos (unhide HC), ← unhide HL2]
          have : c = 0 := UInt8.toNat_inj.1 (unhide HC)
          rw [this]; simp
        rw [← e] at hr2
        clear e
        go_wp2
        go_roundw
        case rel => exact ⟨k + 1, by omega, by go_num, hr2⟩
        case measure => simp [intOf]; omega
      · have hc0 : ((c.toNat : Int) == 0) = false := by rw [beq_eq_false_iff_ne]; omega
        go_wp2_with (first | (at_builtin; refine wpList_append_fresh rfl _ _ 37 rfl base 5 i0 (.int .u8 0) 1 1 under_bytes hi hz0 hz1 hz2 rfl (by decide) _ _ _ rfl ((unhide HR).own.alloc _) ⟨wr.heap.size, 0, none⟩ 1 1 [.int .u8 (c.toNat : Int)] rfl rfl (cell_one_new _ _ _) ?c2 ?c3 ?c4 ?c5 ?_) | fail)
        case c2 => intro u hu; simp at hu; subst hu; rfl
        case c3 => unfold maxLen; omega
        case c4 => omega
        case c5 => have := (unhide HR).base_le; simp; omega
        intro v1 w1 hown1 hgrow1 hfresh1
        have hr1 := (unhide HR).grow (ys := [c]) hown1 hgrow1 (fresh_of hfresh1 (by simp))
        clear hown1 hgrow1 hfresh1 HR hcell
        have e : l ++ Codec.esc (p.take (k + 1)) = l2 ++ [c] := by
          rw [unhide HSN, if_neg hc, ← unhide HL2]; simp
        rw [← e] at hr1
        clear e
        go_wp2
        go_roundw
        case rel => exact ⟨k + 1, by omega, by go_num, hr1⟩
        case measure => simp [intOf]; omega
    · have : k = p.length := by omega
      subst this
      rw [List.take_length] at hr hll
      have e : l ++ Codec.encPart p = l ++ Codec.esc p ++ [0, 1] := by unfold Codec.encPart; simp
      have HE := hide e
      have HR := hide hr
      clear hr HOWN hel e
      go_wp2_with (first | (at_builtin; refine wpList_append_fresh rfl _ _ 37 rfl base 5 i0 (.int .u8 0) 1 1 under_bytes hi hz0 hz1 hz2 rfl (by decide) _ _ _ rfl ((unhide HR).own.alloc _) ⟨wr.heap.size, 0, none⟩ 2 2 [.int .u8 0, .int .u8 1] rfl rfl (two_new _ _ _ _) ?c2 ?c3 ?c4 ?c5 ?_) | fail)
      case c2 => intro u hu; simp at hu; rcases hu with rfl | rfl <;> rfl
      case c3 => unfold maxLen; omega
      case c4 => omega
      case c5 => have := (unhide HR).base_le; simp; omega
      intro v1 w1 hown1 hgrow1 hfresh1
      have hr1 := (unhide HR).grow (ys := [0, 1]) (by rw [List.length_append]; exact hown1) hgrow1 (fresh_of hfresh1 (by simp))
      clear hown1 hgrow1 hfresh1 HR
      go_wp2
      go_ret
      refine ⟨v1, rfl, ?_, ?_, hr1.base_le⟩
      · rw [unhide HE]; exact hr1.own
      · exact (((Below.refl _ _).alloc hbase _).drew).trans hr1.below

/- A slice of texts that came in: its first 'len' texts, at a plain address. -/
def Texts (w : World) (a : Option Addr) (l : List (List UInt8)) : Prop :=
  ∀ i (hi : i < l.length), ∃ b off, a = some ⟨b, off, none⟩ ∧ b < w.heap.size ∧ w.cell? ⟨b, off + i, none⟩ = some (.string (S l[i]))

theorem Texts.later {w w' : World} {a : Option Addr} {l : List (List UInt8)} (h : Texts w a l) (hb : Below w.heap.size w w') : Texts w' a l := by
  intro i hi
  obtain ⟨b, off, e, hlt, hc⟩ := h i hi
  exact ⟨b, off, e, by have := hb.size; omega, by rw [hb.cell (p := ⟨b, off + i, none⟩) hlt]; exact hc⟩

theorem key_small (l : List (List UInt8)) (n k : Nat) (hl : l.length ≤ 64) (hz : ∀ i (h : i < l.length), l[i].length ≤ 1048576) (hk : k ≤ l.length) : (Codec.key (l.take k)).length ≤ 2097154 * k := by
  induction k with
  | zero => simp [Codec.key]
  | succ k ih =>
    rw [Codec.key_snoc l k (by omega), List.length_append]
    have h1 := ih (by omega)
    have h2 := Codec.esc_length l[k]
    have h3 := hz k (by omega)
    have h4 : (Codec.encPart l[k]).length = (Codec.esc l[k]).length + 2 := by simp [Codec.encPart]
    omega

set_option maxHeartbeats 400000 in
theorem key_any (l : List (List UInt8)) (a : Option Addr) (n cap : Nat) (w : World) (hn : n = l.length) (hl : l.length ≤ 64) (hz : ∀ i (h : i < l.length), l[i].length ≤ 1048576) (ht : Texts w a l) :
    Calls Try.prog 30 #[.slice a n cap] w fun e w' => e = .returned (.string (S (Codec.key l))) ∧ Below w.heap.size w w' := by
  have HT := hide ht
  have HZ := hide hz
  have HN := hide hn
  have hn64 : n ≤ 64 := by omega
  clear ht hz hn
  go_enter Try.func30, Try.ntmps30
  go_wp2_with fail
  go_loopw [3, 8] (fun x i wr => ∃ k : Nat, k ≤ n ∧ i = .int .i64 k ∧ wr.ownsRow w.heap.size 5 1 x (Codec.key (l.take k)).length (B8 (Codec.key (l.take k))) ∧ Below w.heap.size w wr ∧ w.heap.size ≤ wr.heap.size) (fun _ i _ => n - (intOf i).toNat)
  case atStart => exact ⟨0, Nat.zero_le _, rfl, World.ownsRow_nil _ _ _ _, Below.refl _ _, Nat.le_refl _⟩
  case round =>
    obtain ⟨k, hk, rfl, hown, hbw, hle⟩ := hrel
    have hks := key_small l n k hl (unhide HZ) (by have := unhide HN; omega)
    by_cases hlt : k < n
    · have hkl : k < l.length := by have := unhide HN; omega
      obtain ⟨b, off, ha, hblt, hcell⟩ := unhide HT k hkl
      subst ha
      rw [← hbw.cell (p := ⟨b, off + k, none⟩) hblt] at hcell
      have hpk := unhide HZ k hkl
      have HKS := hide (Codec.key_snoc l k hkl)
      have HAP := hide (appendPart_any l[k] (Codec.key (l.take k)) w.heap.size _ wr hpk (by omega) hown hle)
      clear hown
      generalize l[k] = p at *
      go_wp2_with fail
      refine (unhide HAP).mono ?_
      rintro e w2 ⟨v2, rfl, hown2, hb2, hle2⟩
      rw [← unhide HKS] at hown2
      have HO := hide hown2
      clear hown2 HAP
      go_wp2
      go_roundw
      case rel => exact ⟨k + 1, by omega, by go_num, unhide HO, hbw.trans hb2, hle2⟩
      case measure => simp [intOf]; omega
    · have hkn : k = l.length := by have := unhide HN; omega
      have e : l.take k = l := by rw [hkn]; exact List.take_length
      rw [e] at hown hks
      clear e
      have kb := bytes_text hown
      have hown0 := hide hown
      clear hown
      go_wp2
      go_ret
      exact ⟨rfl, hbw⟩
end Go.Proofs.Ytphcbnbpbgmplaa
