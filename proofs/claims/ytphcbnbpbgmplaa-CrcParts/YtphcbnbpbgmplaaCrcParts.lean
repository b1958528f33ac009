/- The walk of the law CrcParts: for every list of texts the call returns true, and nothing that was there has turned. -/
import Derived.Test.YtphcbnbpbgmplaaParts
namespace Go.Proofs.Ytphcbnbpbgmplaa
open Go.RowKit
set_option linter.unusedVariables false

theorem under29 : Try.prog.underlying 29 = some (.slice 9) := by kernel_rfl
theorem info9 : (Try.prog.info? 9).map (fun i => (i.zero, i.size, i.bytes)) = some (some (.string ⟨#[]⟩), 1, 16) := by kernel_rfl

/- What holds at the head of a round: k texts have been taken. -/
structure PartsAt (w wr : World) (sb : Nat) (cs : List ByteArray) (k : Nat) (all few : Value) : Prop where
  all : ∃ al : ByteArray, all = .string al ∧ al.data.toList = flat (cs.take k) ∧ al.size ≤ 40 * k
  few : wr.ownsRow (sb + 1) 9 1 few k ((cs.take k).map Value.string)
  sum : SumAt wr sb (Crc.crc (flat (cs.take k)))
  below : Below w.heap.size w wr
  le : w.heap.size ≤ sb

theorem PartsAt.append {w wr w2 : World} {sb k : Nat} {cs : List ByteArray} {all few : Value} {o : Obj} (h : PartsAt w wr sb cs k all few) (hg : (wr.alloc o).grownBy w2 few.ownBlock) :
    SumAt w2 sb (Crc.crc (flat (cs.take k))) ∧ Below w.heap.size w w2 ∧ sb + 1 ≤ wr.heap.size := by
  have hlt := h.sum.lt
  have hle := h.le
  have hsz := hg.size
  have hbs := h.below.size
  have hown := h.few.lt
  simp at hsz
  refine ⟨h.sum.kept ?_ (by omega), ?_, by omega⟩
  · rw [hg.block sb (by simp; omega) (fun e => by have := hown sb e.symm; omega), Below.heap_alloc _ _ _ hlt]
  · exact (h.below.alloc hbs o).grown hg (by simp; omega) (fun j hj => by have := hown j hj; omega)

theorem PartsAt.next {w w2 w3 : World} {sb k : Nat} {cs : List ByteArray} {al s : ByteArray} {v' : Value} (hk : k < cs.length) (hs : cs[k] = s) (hs40 : s.size ≤ 40)
    (hal : al.data.toList = flat (cs.take k)) (hz : al.size ≤ 40 * k) (hle : w.heap.size ≤ sb)
    (hsum : SumAt w2 sb (Crc.crc (flat (cs.take k)))) (hb : Below w.heap.size w w2)
    (hown : w2.ownsRow (sb + 1) 9 1 v' (k + 1) ((cs.map Value.string).take k ++ [Value.string s]))
    (hadd : Below w2.heap.size (w2.setCell ⟨sb, 0, none⟩ (.int .u32 (Crc.ones - Crc.feed (Crc.ones - Crc.crc (flat (cs.take k))) s.data.toList : Nat))) w3) :
    PartsAt w w3 sb cs (k + 1) (.string (al ++ s)) v' ∧ (al ++ s).data.toList = flat (cs.take (k + 1)) := by
  rw [← List.map_take] at hown
  have e1 := crc_snoc cs k hk
  have e2 := flat_snoc cs k hk
  rw [hs] at e1 e2
  have hsum3 := hsum.put _ hadd
  rw [e1] at hsum3
  have hlt := hsum.lt
  have hfin : (al ++ s).data.toList = flat (cs.take (k + 1)) := by rw [e2, ← hal]; simp
  refine ⟨⟨⟨al ++ s, rfl, hfin, ?_⟩, ?_, hsum3, ?_, hle⟩, hfin⟩
  · rw [ByteArray.size_append]; omega
  · have e3 : (cs.take (k + 1)).map Value.string = (cs.take k).map Value.string ++ [Value.string s] := by
      rw [List.take_succ_eq_append_getElem hk, hs]; simp
    rw [e3]
    exact ownsRow_below (ownsRow_setCell_below hown (a := ⟨sb, 0, none⟩) (by simp) _) (by simpa using hadd)
  · exact (hb.setCell (p := ⟨sb, 0, none⟩) hle _).trans (hadd.mono (by omega))

theorem flat_mem (l : List ByteArray) (s : ByteArray) (h : s ∈ l) : s.data.toList.length ≤ (flat l).length := by
  induction l with
  | nil => cases h
  | cons a l ih =>
    have e : flat (a :: l) = a.data.toList ++ flat l := rfl
    rw [e, List.length_append]
    rcases List.mem_cons.1 h with rfl | h
    · omega
    · have := ih h; omega

theorem cs_small {cs : List ByteArray} {k : Nat} {al : ByteArray} (hal : al.data.toList = flat (cs.take k)) (haz : al.size ≤ 40 * k) (hk8 : k ≤ 8) : ∀ i (h : i < (cs.take k).length), (cs.take k)[i].size ≤ maxLen := by
  intro i hi
  have h1 : (cs.take k)[i].data.toList.length ≤ (flat (cs.take k)).length := flat_mem _ _ (List.getElem_mem hi)
  rw [← hal] at h1
  have h2 : al.data.toList.length = al.size := rfl
  have h3 : (cs.take k)[i].data.toList.length = (cs.take k)[i].size := rfl
  unfold maxLen
  omega

theorem PartsAt.final {w wr : World} {sb k : Nat} {cs : List ByteArray} {al : ByteArray} {few : Value} (h : PartsAt w wr sb cs k (.string al) few) (hal : al.data.toList = flat (cs.take k)) (hck : k ≤ cs.length) (haz : al.size ≤ 40 * k) (hk8 : k ≤ 8) :
    Hid (Calls Try.prog 11 #[few] wr fun e w' => e = .returned (.int .u32 (Crc.crc (flat (cs.take k)) : Nat)) ∧ Below wr.heap.size wr w') ∧
    Hid (∀ w2, Below wr.heap.size wr w2 → (Calls Try.prog 16 #[.pointer (some ⟨sb, 0, none⟩)] w2 fun e w' => e = .returned (.int .u32 (Crc.crc (flat (cs.take k)) : Nat)) ∧ w' = w2) ∧
      (Calls Try.prog 12 #[.string al] w2 fun e w' => e = .returned (.int .u32 (Crc.crc (flat (cs.take k)) : Nat)) ∧ w' = w2)) ∧
    Hid True ∧ Below w.heap.size w wr := by
  have hlen : (cs.take k).length = k := by simp; omega
  refine ⟨?_, ?_, trivial, h.below⟩
  · have hf := h.few
    refine of_owned (cs.take k) (sb + 1) few wr (by rw [hlen]; unfold maxLen; omega) (cs_small hal haz hk8) ?_
    rw [hlen]
    exact hf
  · intro w2 hb
    have hs := h.sum.kept (hb.block sb h.sum.lt) hb.size
    have hr := ref_any al w2 (by unfold maxLen; omega)
    rw [hal] at hr
    exact ⟨value_any _ _ w2 hs.cell, hr⟩

set_option maxHeartbeats 400000 in
theorem crcParts_walk (a0 : Option Addr) (len cap : Nat) (z0 : List ByteArray) (w : World) (w0 : IsStrs w a0 len cap z0) :
    Calls Try.prog 4 #[.slice a0 len cap] w fun e w' => e = .returned (.bool true) ∧ Below w.heap.size w w' := by
  obtain ⟨l, hl, hlm, hls, hlc⟩ := w0.norm
  obtain ⟨cs, hcs⟩ : ∃ cs, cs = (l.take 8).map (fun s => cut s 40) := ⟨_, rfl⟩
  have hcl : cs.length = min 8 len := by rw [hcs]; simp [hl]
  have HL := hide hl
  have HLS := hide hls
  have HLC := hide hlc
  have HCS := hide hcs
  have HCL := hide hcl
  clear hl hls hlc hcs hcl w0
  unfold maxLen at hlm
  obtain ⟨i0, hi, hz0, hz1, hz2⟩ := info_parts info9
  go_enter Try.func4, Try.ntmps4
  go_wp2_with fail
  refine (awake_any _).mono ?_
  rintro e w1 ⟨rfl, hb1⟩
  go_wp2_with fail
  go_loopw [3, 5, 6] (fun all few i wr => ∃ k : Nat, k ≤ len ∧ k ≤ 8 ∧ i = .int .i64 k ∧ PartsAt w wr w1.heap.size cs k all few) (fun _ _ i _ => 8 - (intOf i).toNat)
  case atStart =>
    refine ⟨0, by omega, by omega, rfl, ⟨⟨⟨#[]⟩, rfl, by simp [flat], by simp; rfl⟩, World.ownsRow_nil _ _ _ _, ⟨by simp, ?_, ?_⟩, hb1.alloc hb1.size _, hb1.size⟩⟩
    · simp [flat, Crc.crc, Crc.feed]
    · simp
  case round =>
    obtain ⟨k, hk, hk8, rfl, hp⟩ := hrel
    obtain ⟨al, rfl, hal, haz⟩ := hp.all
    have HAL := hide hal
    have HP := hide hp
    clear hal hp
    by_cases hlt : k < len
    · by_cases hlt8 : k < 8
      · have hlk : k < l.length := by rw [unhide HL]; exact hlt
        have hck : k < cs.length := by rw [unhide HCL]; omega
        obtain ⟨b, off, rfl, hbl, hcell⟩ := unhide HLC k hlk
        have hsz := unhide HLS k hlk
        have hcut : cs[k] = cut l[k] 40 := by simp only [unhide HCS]; simp
        rw [← (unhide HP).below.cell (p := ⟨b, off + k, none⟩) hbl] at hcell
        have h40 := (cut_size l[k] 40).1
        have hcc := hide (cut_any l[k] 40 wr hsz)
        generalize cut l[k] 40 = s at *
        generalize l[k] = s0 at *
        have HCUT := hide hcut
        clear hcut
        go_wp2_with fail
        refine (unhide hcc).mono ?_
        rintro e wq ⟨rfl, rfl⟩
        clear hcc hcell
        go_wp2_with (first | (at_builtin; refine wpList_append_own _ rfl _ _ 29 rfl (w1.heap.size + 1) 9 i0 (.string ⟨#[]⟩) 1 16 under29 hi hz0 hz1 hz2 rfl (by decide) _ _ _ rfl ((unhide HP).few.alloc _) ⟨wq.heap.size, 0, none⟩ 1 1 [.string s] rfl rfl (cell_one_new _ _ _) ?c2 ?c3 ?c4 ?c5 ?_) | fail)
        case c2 => intro u hu; simp at hu; subst hu; rfl
        case c3 => unfold maxLen; omega
        case c4 => omega
        case c5 => have := (unhide HP).sum.lt; simp; omega
        intro v' w2 hown' hgrow _
        obtain ⟨hsum2, hb2, hbase⟩ := (unhide HP).append hgrow
        have HOWN := hide hown'
        clear hown' hgrow
        have hs40 : s.size ≤ maxLen := by unfold maxLen; omega
        have hvl := Crc.crc_lt (flat (cs.take k))
        have H3 := hide (add_any s w1.heap.size _ w2 hs40 hsum2.lt hvl hsum2.cell hsum2.frozen)
        go_wp2_with fail
        refine (unhide H3).mono ?_
        rintro e w3 ⟨rfl, hadd⟩
        obtain ⟨hp3, hfin⟩ := PartsAt.next hck (unhide HCUT) h40 (unhide HAL) haz (unhide HP).le hsum2 hb2 (unhide HOWN) hadd
        have hs3 : (al ++ s).size ≤ maxLen := by rw [ByteArray.size_append]; unfold maxLen; omega
        have hval := value_any _ _ w3 hp3.sum.cell
        have href := ref_any (al ++ s) w3 hs3
        rw [hfin] at href
        have HVAL := hide hval
        have HREF := hide href
        have HP3 := hide hp3
        clear hval href hp3 H3 hadd hsum2 hb2 hvl hs3 hfin
        generalize Crc.crc (flat (cs.take (k + 1))) = N at HVAL HREF
        go_wp2_with fail
        refine (unhide HVAL).mono ?_
        rintro e w4 ⟨rfl, rfl⟩
        go_wp2_with fail
        refine (unhide HREF).mono ?_
        rintro e w5 ⟨rfl, rfl⟩
        go_wp2_with fail
        refine (unhide HVAL).mono ?_
        rintro e w6 ⟨rfl, rfl⟩
        go_wp2
        go_roundw
        case rel => exact ⟨k + 1, by omega, by omega, by go_num, unhide HP3⟩
        case measure => simp [intOf]; omega
      · have hck : k ≤ cs.length := by rw [unhide HCL]; omega
        obtain ⟨HOF, HVAL, HREF, hbw⟩ := (unhide HP).final (unhide HAL) hck haz hk8
        clear HP HAL
        generalize Crc.crc (flat (cs.take k)) = N at HOF HVAL HREF
        go_wp2_with fail
        refine (unhide HOF).mono ?_
        rintro e w2 ⟨rfl, hb2⟩
        obtain ⟨hv2, hr2⟩ := unhide HVAL w2 hb2
        have HV2 := hide hv2
        have HR2 := hide hr2
        clear hv2 hr2 HVAL HREF HOF
        go_wp2_with fail
        refine (unhide HR2).mono ?_
        rintro e w3 ⟨rfl, rfl⟩
        go_wp2_with fail
        refine (unhide HV2).mono ?_
        rintro e w4 ⟨rfl, rfl⟩
        go_wp2_with fail
        refine (unhide HR2).mono ?_
        rintro e w5 ⟨rfl, rfl⟩
        go_wp2
        go_ret
        exact ⟨rfl, hbw.trans (hb2.mono hbw.size)⟩
    · have hck : k ≤ cs.length := by rw [unhide HCL]; omega
      obtain ⟨HOF, HVAL, HREF, hbw⟩ := (unhide HP).final (unhide HAL) hck haz hk8
      clear HP HAL
      generalize Crc.crc (flat (cs.take k)) = N at HOF HVAL HREF
      go_wp2_with fail
      refine (unhide HOF).mono ?_
      rintro e w2 ⟨rfl, hb2⟩
      obtain ⟨hv2, hr2⟩ := unhide HVAL w2 hb2
      have HV2 := hide hv2
      have HR2 := hide hr2
      clear hv2 hr2 HVAL HREF HOF
      go_wp2_with fail
      refine (unhide HR2).mono ?_
      rintro e w3 ⟨rfl, rfl⟩
      go_wp2_with fail
      refine (unhide HV2).mono ?_
      rintro e w4 ⟨rfl, rfl⟩
      go_wp2_with fail
      refine (unhide HR2).mono ?_
      rintro e w5 ⟨rfl, rfl⟩
      go_wp2
      go_ret
      exact ⟨rfl, hbw.trans (hb2.mono hbw.size)⟩
end Go.Proofs.Ytphcbnbpbgmplaa
