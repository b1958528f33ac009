/- StampTurns's walk. -/
import Derived.Lib.SmallJoins
import Derived.BigQuiet
import Derived.Test.YtbggjkokfbcbcabDoorSAwake
import Derived.Test.YtbggjkokfbcbcabDoorSTurnsMath
import Derived.Test.YtbggjkokfbcbcabDoorKTurn
namespace Go.Proofs.YtbggjkokfbcbcabDoor
open Go.RowKit
set_option linter.unusedVariables false
set_option maxRecDepth 100000

theorem mask_and (n : Int) (k : Nat) (m : Int) (hk : k < 63) (hm : (BitVec.ofInt 64 m).toNat = 2 ^ k - 1) : bits .and .i64 n m = n % (2 ^ k : Nat) := by
  have key : (BitVec.ofInt 64 n &&& BitVec.ofInt 64 m).toNat = (n % ((2 ^ 64 : Nat) : Int)).toNat % 2 ^ k := by
    rw [BitVec.toNat_and, BitVec.toNat_ofInt, hm, Nat.and_two_pow_sub_one_eq_mod]
  show IntKind.i64.wrap ((BitVec.ofInt 64 n &&& BitVec.ofInt 64 m).toNat : Nat) = n % (2 ^ k : Nat)
  have hlt : (n % ((2 ^ 64 : Nat) : Int)).toNat % 2 ^ k < 2 ^ 63 := Nat.lt_trans (Nat.mod_lt _ (Nat.two_pow_pos k)) (Nat.pow_lt_pow_right (by omega) hk)
  rw [key, IntKind.wrap_i64]
  have hd : (2 ^ 64 : Nat) = 2 ^ k * 2 ^ (64 - k) := by rw [← Nat.pow_add]; congr 1; omega
  have h1 : (((n % ((2 ^ 64 : Nat) : Int)).toNat % 2 ^ k : Nat) : Int) = n % (2 ^ k : Nat) := by
    rw [Int.natCast_emod, Int.toNat_of_nonneg (Int.emod_nonneg _ (by simp)), hd, Int.natCast_mul, Int.emod_emod_of_dvd _ ⟨_, rfl⟩]
  rw [h1]
  have h2 : (n % (2 ^ k : Nat)) < 9223372036854775808 := by
    have : (2 : Nat) ^ 63 = 9223372036854775808 := by decide
    rw [← h1]; omega
  have h3 : 0 ≤ n % (2 ^ k : Nat) := by rw [← h1]; omega
  omega

set_option maxHeartbeats 6400000 in
theorem sturns_any (a : Int) (mk : Nat) (d : List UInt8) (at' : Int) (bs : Nat) (sm : Bool) (w : World) (hmk : mk ≤ 255) (hd : d.length ≤ 9223372036854775807) (hbs : bs < 4294967296) :
    Calls Tryd.prog 3 #[.agg #[.int .i64 a, .int .u8 (mk : Int), .string (S d)], .int .i64 at', .int .u32 (bs : Int), .bool sm] w fun e w' => e = .returned (.bool true) ∧ Below w.heap.size w w' := by
  have HCUT := hide (fun wy => cut_any (S d) 44 wy (by unfold maxLen; show d.length ≤ _; omega))
  rw [S_toList] at HCUT
  have h44 : (d.take 44).length ≤ 44 := by simp; omega
  generalize d.take 44 = t at *
  have HAW := hide (fun wy => sawake_any wy)
  have HC := hide (fun wy => check_any a (mk : Int) t wy)
  obtain ⟨c, hc⟩ : ∃ c, chk a t = c := ⟨_, rfl⟩
  rw [hc] at HC
  obtain ⟨n, hn, hn6⟩ : ∃ n : Nat, bits .and .i64 at' 65535 = (n : Int) ∧ n < 65536 := ⟨(at' % 65536).toNat, by rw [mask_and at' 16 65535 (by omega) (by decide)]; omega, by omega⟩
  obtain ⟨W, hW⟩ : ∃ W, w.alloc (.cells #[.int .i64 a, .int .u8 (mk : Int), .string (S t)] 23) = W := ⟨_, rfl⟩
  have hbW : Below w.heap.size w W := by rw [← hW]; exact (Below.refl _ _).alloc (Nat.le_refl _) _
  have hq0 : W.heap[w.heap.size]? = some (.cells #[.int .i64 a, .int .u8 (mk : Int), .string (S t)] 23 (0, 0)) := by
    rw [← hW]; exact heap_alloc_new w _
  have hsz : W.heap.size = w.heap.size + 1 := by rw [← hW]; simp
  have d0 : W.cell? ⟨w.heap.size, 0, none⟩ = some (.int .i64 a) := by rw [World.cell?, hq0]; rfl
  have d1 : W.cell? ⟨w.heap.size, 1, none⟩ = some (.int .u8 (mk : Int)) := by rw [World.cell?, hq0]; rfl
  have d2 : W.cell? ⟨w.heap.size, 2, none⟩ = some (.string (S t)) := by rw [World.cell?, hq0]; rfl
  have hltW : w.heap.size < W.heap.size := by omega
  have hcur : Below W.heap.size W W := (Below.refl _ _)
  have HW := hide hW
  have HBW := hide hbW
  clear hW hbW hq0
  go_enter Tryd.func3, Tryd.ntmps3
  go_wp2_with fail
  refine (unhide HCUT _).mono ?_
  rintro e w1 ⟨rfl, rfl⟩
  clear HCUT
  go_wp2_with fail
  rw [unhide HW]
  refine (unhide HAW _).mono ?_
  rintro e w2 ⟨rfl, hb2⟩
  replace hcur := hcur.trans (hb2.mono hcur.size)
  have f0 := (hcur.cell (p := ⟨w.heap.size, 0, none⟩) hltW).trans d0
  have f1 := (hcur.cell (p := ⟨w.heap.size, 1, none⟩) hltW).trans d1
  have f2 := (hcur.cell (p := ⟨w.heap.size, 2, none⟩) hltW).trans d2
  clear hb2
  go_wp2_with fail
  refine (unhide HC _).mono ?_
  rintro e w3 ⟨rfl, hb3⟩
  replace hcur := hcur.trans (hb3.mono hcur.size)
  clear hb3 f0 f1 f2
  by_cases hc0 : c = 0
  · subst hc0
    have f0 := (hcur.cell (p := ⟨w.heap.size, 0, none⟩) hltW).trans d0
    have f1 := (hcur.cell (p := ⟨w.heap.size, 1, none⟩) hltW).trans d1
    have f2 := (hcur.cell (p := ⟨w.heap.size, 2, none⟩) hltW).trans d2
    obtain ⟨st, hst⟩ : ∃ n : Nat, a = (n : Int) := ⟨a.toNat, by unfold chk at hc; split at hc <;> omega⟩
    subst hst
    obtain ⟨hn1, hn2⟩ : 1 ≤ st ∧ st ≤ 1099511627776 := by
      unfold chk at hc; split at hc
      · omega
      · split at hc <;> omega
    have hok : (⟨st, mk, t⟩ : Codec.Sec).Ok := ⟨hn2, hmk, by show t.length ≤ 50; omega⟩
    have HT := hide (fun wy => stext_any ⟨st, mk, t⟩ wy hok h44)
    have hlen := Codec.secText_length ⟨st, mk, t⟩ hok h44
    have HPT := hide (Codec.parse_turned ⟨st, mk, t⟩ hok h44 hn1)
    have HPS := hide (fun l wy (h : List.length l ≤ 1000) => sparse_any l wy h)
    have hls : (S (Codec.secText ⟨st, mk, t⟩)).size = 64 := hlen
    have hsp : Codec.secText ⟨st, mk, t⟩ = Codec.sumOf (Codec.pad60 (Codec.body ⟨st, mk, t⟩)) ++ Codec.pad60 (Codec.body ⟨st, mk, t⟩) := rfl
    have hl60 : (Codec.pad60 (Codec.body ⟨st, mk, t⟩)).length = 60 := Codec.pad60_length _ (by have := Codec.body_length44 _ hok h44; omega)
    have hl4 : (Codec.sumOf (Codec.pad60 (Codec.body ⟨st, mk, t⟩))).length = 4 := rfl
    have ht4 : (S (Codec.secText ⟨st, mk, t⟩)).extract 0 4 = S (Codec.sumOf (Codec.pad60 (Codec.body ⟨st, mk, t⟩))) := by
      rw [S_take, hsp]; congr 1
    have hd4 : (S (Codec.secText ⟨st, mk, t⟩)).extract 4 64 = S (Codec.pad60 (Codec.body ⟨st, mk, t⟩)) := by
      rw [← hls, S_drop, hsp]; congr 1
    unfold SV at HT
    dsimp only at HT
    have HSP := hide hsp
    clear hsp
    generalize Codec.secText ⟨st, mk, t⟩ = T at *
    generalize Codec.sumOf (Codec.pad60 (Codec.body ⟨st, mk, t⟩)) = h0 at *
    generalize Codec.pad60 (Codec.body ⟨st, mk, t⟩) = r0 at *
    clear hlen hok hc HC h44
    go_wp2_with fail
    refine (unhide HT _).mono ?_
    rintro e w4 ⟨rfl, hb4⟩
    replace hcur := hcur.trans (hb4.mono hcur.size)
    clear hb4 f0 f1 f2
    go_wp2_with fail
    go_quiet (fail)
    have hdr : Below W.heap.size W (w4.drewN nq) := hcur.trans (Go.Joins.below_draws _ w4 nq)
    clear hcur
    have hcur := hdr
    clear hdr
    cases sm with
    | true =>
      have HTU := hide (fun wy => turn_any (S h0) (n % 32) bs wy (by show h0.length ≤ _; omega) (by show _ < 8 * h0.length; omega) hbs)
      rw [show ((n % 32 : Nat) : Int) = (n : Int) % 32 by omega] at HTU
      go_wp2_with fail
      refine (unhide HTU _).mono ?_
      rintro e w5 ⟨hx, q, rfl, hb5, lh, hq, hnum⟩
      replace lh : hx.length = 4 := by rw [lh]; exact hl4
      replace hcur := hcur.trans (hb5.mono hcur.size)
      have hor := unhide HPT hx r0 lh hl60 (Or.inl rfl)
      clear hnum hq hb5 HTU
      have lr := hl60
      rw [show (⟨hx.toArray⟩ : ByteArray) = S hx from rfl]
      have X : Hid (Below w.heap.size w w5) := (unhide HBW).trans (hcur.mono (by omega))
      have hpl : (hx ++ r0).length ≤ 1000 := by rw [List.length_append]; omega
      have HP := hide (fun wy => unhide HPS (hx ++ r0) wy hpl)
      have hap : S hx ++ S r0 = S (hx ++ r0) := S_append _ _
      have z1 : (S hx).size = 4 := lh
      have z2 : (S r0).size = 60 := lr
      rcases hor with ⟨he, hp⟩ | ⟨he, hp⟩
      · rw [hp] at HP
        rw [he] at HP hap
        have hse : ((S T).toList == (S T).toList) = true := by simp
        clear he hp hpl HPS HPT hcur
        unfold SV at HP
        dsimp only at HP
        go_wp2_with fail
        refine (unhide HP _).mono ?_
        rintro e w6 ⟨rfl, hb6⟩
        have X6 := hide ((unhide X).trans (hb6.mono (unhide X).size))
        clear hb6
        go_wp2_with fail
        go_ret
        exact ⟨rfl, (unhide X6).alloc (unhide X6).size _⟩
      · rw [hp] at HP
        have hse : ((S (hx ++ r0)).toList == (S T).toList) = false := by rw [S_list, S_list]; simpa using he
        clear he hp hpl HPS HPT hcur
        unfold SV at HP
        dsimp only at HP
        generalize hx ++ r0 = X0 at *
        go_wp2_with fail
        refine (unhide HP _).mono ?_
        rintro e w6 ⟨rfl, hb6⟩
        have X6 := hide ((unhide X).trans (hb6.mono (unhide X).size))
        clear hb6
        go_wp2_with fail
        go_ret
        exact ⟨rfl, (unhide X6).alloc (unhide X6).size _⟩
    | false =>
      have HTU := hide (fun wy => turn_any (S r0) (n % 480) bs wy (by show r0.length ≤ _; omega) (by show _ < 8 * r0.length; omega) hbs)
      rw [show ((n % 480 : Nat) : Int) = (n : Int) % 480 by omega] at HTU
      go_wp2_with fail
      refine (unhide HTU _).mono ?_
      rintro e w5 ⟨rx, q, rfl, hb5, lr, hq, hnum⟩
      replace lr : rx.length = 60 := by rw [lr]; exact hl60
      replace hcur := hcur.trans (hb5.mono hcur.size)
      have htell := Crc.crc_tells r0 rx (n % 480) q (by omega) (by omega) hq hnum
      have hor := unhide HPT h0 rx hl4 lr (Or.inr ⟨rfl, htell⟩)
      clear hnum hq hb5 HTU htell
      have lh := hl4
      rw [show (⟨rx.toArray⟩ : ByteArray) = S rx from rfl]
      have X : Hid (Below w.heap.size w w5) := (unhide HBW).trans (hcur.mono (by omega))
      have hpl : (h0 ++ rx).length ≤ 1000 := by rw [List.length_append]; omega
      have HP := hide (fun wy => unhide HPS (h0 ++ rx) wy hpl)
      have hap : S h0 ++ S rx = S (h0 ++ rx) := S_append _ _
      have z1 : (S h0).size = 4 := lh
      have z2 : (S rx).size = 60 := lr
      rcases hor with ⟨he, hp⟩ | ⟨he, hp⟩
      · rw [hp] at HP
        rw [he] at HP hap
        have hse : ((S T).toList == (S T).toList) = true := by simp
        clear he hp hpl HPS HPT hcur
        unfold SV at HP
        dsimp only at HP
        go_wp2_with fail
        refine (unhide HP _).mono ?_
        rintro e w6 ⟨rfl, hb6⟩
        have X6 := hide ((unhide X).trans (hb6.mono (unhide X).size))
        clear hb6
        go_wp2_with fail
        go_ret
        exact ⟨rfl, (unhide X6).alloc (unhide X6).size _⟩
      · rw [hp] at HP
        have hse : ((S (h0 ++ rx)).toList == (S T).toList) = false := by rw [S_list, S_list]; simpa using he
        clear he hp hpl HPS HPT hcur
        unfold SV at HP
        dsimp only at HP
        generalize h0 ++ rx = X0 at *
        go_wp2_with fail
        refine (unhide HP _).mono ?_
        rintro e w6 ⟨rfl, hb6⟩
        have X6 := hide ((unhide X).trans (hb6.mono (unhide X).size))
        clear hb6
        go_wp2_with fail
        go_ret
        exact ⟨rfl, (unhide X6).alloc (unhide X6).size _⟩
  · go_wp2_with fail
    refine (unhide HAW _).mono ?_
    rintro e w4 ⟨rfl, hb4⟩
    replace hcur := hcur.trans (hb4.mono hcur.size)
    go_wp2_with fail
    go_ret
    exact ⟨rfl, (unhide HBW).trans (hcur.mono (by omega))⟩

theorem stampTurns_walk (a : Int) (ha : (Lit.int .i64 a).wf = true) (mk : Int) (hm : (Lit.int .u8 mk).wf = true) (d : ByteArray) (hd : d.size ≤ maxLen) (x : Int) (hx : (Lit.int .i64 x).wf = true) (b : Int) (hb : (Lit.int .u32 b).wf = true) (sm : Bool) (w : World) :
    Calls Tryd.prog 3 #[.agg #[.int .i64 a, .int .u8 mk, .string d], .int .i64 x, .int .u32 b, .bool sm] w fun e w' => e = .returned (.bool true) ∧ Below w.heap.size w w' := by
  obtain ⟨h0, h1⟩ : 0 ≤ mk ∧ mk ≤ 255 := by simpa [Lit.wf, IntKind.min, IntKind.max, IntKind.signed, IntKind.bits] using hm
  obtain ⟨n, rfl⟩ : ∃ n : Nat, mk = (n : Int) := ⟨mk.toNat, by omega⟩
  have hb2 := bounds_u32 hb
  obtain ⟨k, rfl⟩ := Int.eq_ofNat_of_zero_le hb2.1
  have e : S d.data.toList = d := by cases d; simp [S]
  have := sturns_any a n d.data.toList x k sm w (by omega) (by have : d.data.toList.length = d.size := Array.length_toList
                                                               unfold maxLen at hd; omega) (by omega)
  rwa [e] at this
end Go.Proofs.YtbggjkokfbcbcabDoor
