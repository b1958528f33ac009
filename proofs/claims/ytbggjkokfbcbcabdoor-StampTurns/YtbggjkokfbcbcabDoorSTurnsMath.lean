/- Plain mathematics: a sector's bytes in which up to 32 bits side by side are otherwise. No program is named here. -/
import Derived.Test.YtbggjkokfbcbcabDoorSMath
import Derived.Test.YtbggjkokfbcbcabDoorKTurnMath
namespace Codec

theorem four_inj (n m : Nat) (hn : n < 4294967296) (hm : m < 4294967296) (h : four n = four m) : n = m := by
  unfold four at h
  have key : ∀ a b : Nat, a < 256 → b < 256 → UInt8.ofNat a = UInt8.ofNat b → a = b := fun a b ha hb e => by
    have := congrArg UInt8.toNat e
    rw [UInt8.toNat_ofNat', UInt8.toNat_ofNat'] at this
    omega
  injection h with h0 h
  injection h with h1 h
  injection h with h2 h
  injection h with h3 _
  have e0 := key _ _ (Nat.mod_lt _ (by decide)) (Nat.mod_lt _ (by decide)) h0
  have e1 := key _ _ (Nat.mod_lt _ (by decide)) (Nat.mod_lt _ (by decide)) h1
  have e2 := key _ _ (Nat.mod_lt _ (by decide)) (Nat.mod_lt _ (by decide)) h2
  have e3 := key _ _ (Nat.mod_lt _ (by decide)) (Nat.mod_lt _ (by decide)) h3
  omega

theorem parse_turned (s : Sec) (h : s.Ok) (h44 : s.data.length ≤ 44) (h1 : 1 ≤ s.stamp) (hd rs : List UInt8) (lh : hd.length = 4) (lr : rs.length = 60)
    (hor : rs = pad60 (body s) ∨ (hd = sumOf (pad60 (body s)) ∧ (Crc.crc rs = Crc.crc (pad60 (body s)) → rs = pad60 (body s)))) :
    (hd ++ rs = secText s ∧ parse (hd ++ rs) = (s, 0)) ∨ (hd ++ rs ≠ secText s ∧ parse (hd ++ rs) = (⟨0, 0, []⟩, 5)) := by
  by_cases e : hd ++ rs = secText s
  · exact .inl ⟨e, by rw [e]; exact parse_text s h h44 h1⟩
  · refine .inr ⟨e, ?_⟩
    have ht : (hd ++ rs).take 4 = hd := List.take_left' lh
    have hr : (hd ++ rs).drop 4 = rs := List.drop_left' lh
    unfold parse
    rw [if_neg (by rw [List.length_append]; omega), ht, hr, if_pos]
    intro hx
    apply e
    unfold secText
    rcases hor with h2 | ⟨h2, h3⟩
    · rw [← h2, ← hx]
    · have h4 : Crc.crc rs = Crc.crc (pad60 (body s)) := four_inj _ _ (Crc.crc_lt _) (Crc.crc_lt _) (by
        have : sumOf rs = sumOf (pad60 (body s)) := hx.symm.trans h2
        exact this)
      rw [h2, h3 h4]
end Codec
