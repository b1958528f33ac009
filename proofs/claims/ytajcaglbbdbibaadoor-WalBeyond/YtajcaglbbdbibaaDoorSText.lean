/- The contract of a sector's Text. -/
import Derived.Test.YtajcaglbbdbibaaDoorSCalls
import Derived.Deep.RegionHeld3
namespace Go.Proofs.YtajcaglbbdbibaaDoor
open Go.RowKit
set_option linter.unusedVariables false
set_option maxRecDepth 100000

theorem repeat_zero : ∀ n, Lib.repeatL [(0 : UInt8)] n = List.replicate n 0
  | 0 => rfl
  | n + 1 => by simp [Lib.repeatL, repeat_zero n, List.replicate_succ]

/- A new Out: every other block is none of its. -/
theorem foreign_blank {W wx : World} {B sb : Nat} (hc : W.cell? ⟨B, 0, none⟩ = some (.slice none 0 0)) (hB : B < W.heap.size) (hb : Below W.heap.size W wx) (hs : sb ≠ B) : Foreign wx B sb := by
  refine ⟨hs, fun v hv e => ?_⟩
  rw [hb.cell (p := ⟨B, 0, none⟩) hB, hc] at hv
  cases hv
  cases e

theorem Foreign.fresh {w : World} {b : Nat} {l : List UInt8} (h : OutAt w b l) (o : Obj) : Foreign (w.alloc o) b w.heap.size := by
  obtain ⟨ao, c, hc, hown⟩ := h.cell
  refine ⟨by have := h.lt; omega, fun v hv e => ?_⟩
  rw [World.cell?_of_block (w := w) (a := ⟨b, 0, none⟩) (Below.heap_alloc _ _ _ h.lt), hc] at hv
  cases hv
  have := (hown.lt _ e).2
  omega

/- Two numbers onto a new Out. -/
theorem two_any {W : World} {B : Nat} (hO : OutAt W B []) (hcB : W.cell? ⟨B, 0, none⟩ = some (.slice none 0 0)) (st mk : Nat) (h1 : st ≤ 1099511627776) (h2 : mk ≤ 255) (wx : World) (sb : Nat) (hb : Below W.heap.size W wx) (hsb : sb ≠ B)
    (c0 : wx.cell? ⟨sb, 0, none⟩ = some (.int .i64 (st : Int))) (c1 : wx.cell? ⟨sb, 1, none⟩ = some (.int .i64 (mk : Int))) :
    Calls Tryd.prog 59 #[.pointer (some ⟨B, 0, none⟩), .slice (some ⟨sb, 0, none⟩) 2 2] wx fun e w' => e = .returned (.pointer (some ⟨B, 0, none⟩)) ∧ OutAt w' B (Codec.enc st ++ Codec.enc mk) ∧ wx.heap.size ≤ w'.heap.size ∧ (∀ k, k < wx.heap.size → k ≠ B → w'.heap[k]? = wx.heap[k]? ∧ Foreign w' B k) ∧ (∀ B', B' ≤ W.heap.size → B' ≤ B → Below B' wx w') := by
  have hOx := (hO.later hb).1
  have hf : Foreign wx B sb := foreign_blank hcB hO.lt hb hsb
  have := outN_any B [] [(st : Int), (mk : Int)] (some ⟨sb, 0, none⟩) 2 2 wx hOx rfl (by simp) (by simp)
    (by
      intro i hi
      obtain rfl | rfl : i = 0 ∨ i = 1 := by simp at hi; omega
      · simp; omega
      · simp; omega)
    (by
      intro i hi
      refine ⟨sb, 0, rfl, cell_lt c0, hf, ?_⟩
      obtain rfl | rfl : i = 0 ∨ i = 1 := by simp at hi; omega
      · exact c0
      · exact c1)
  refine this.mono ?_
  rintro e w' ⟨rfl, ho, hst⟩
  have e1 : [] ++ encN [(st : Int), (mk : Int)] = Codec.enc st ++ Codec.enc mk := by simp [encN]
  rw [e1] at ho
  exact ⟨rfl, ho, hst.size, fun k hk hne => hst.keep k hk (foreign_blank hcB hO.lt hb hne), fun B' hB' hB2 => hst.below hOx hB2⟩
theorem onS_any {wy : World} {B : Nat} {l : List UInt8} (hO : OutAt wy B l) (hl : l.length ≤ 1000) (d : List UInt8) (hd : d.length ≤ 1000) (sb : Nat) (hf : Foreign wy B sb) (c0 : wy.cell? ⟨sb, 0, none⟩ = some (.string (S d))) :
    Calls Tryd.prog 60 #[.pointer (some ⟨B, 0, none⟩), .slice (some ⟨sb, 0, none⟩) 1 1] wy fun e w' => e = .returned (.pointer (some ⟨B, 0, none⟩)) ∧ OutAt w' B (l ++ Codec.encS d) ∧ Step B wy w' := by
  have := outS_any B l [d] (some ⟨sb, 0, none⟩) 1 1 wy hO rfl (by simp) (by omega)
    (by intro i hi; obtain rfl : i = 0 := by simp at hi; omega
        simp; omega)
    (by intro i hi; obtain rfl : i = 0 := by simp at hi; omega
        exact ⟨sb, 0, rfl, cell_lt c0, hf, c0⟩)
  refine this.mono ?_
  rintro e w' ⟨rfl, ho, hst⟩
  have e1 : encT [d] = Codec.encS d := by simp [encT]
  rw [e1] at ho
  exact ⟨rfl, ho, hst⟩

set_option maxHeartbeats 3200000 in
theorem stext_any (s : Codec.Sec) (w : World) (h : s.Ok) (h44 : s.data.length ≤ 44) :
    Calls Tryd.prog 43 #[SV s] w fun e w' => e = .returned (.string (S (Codec.secText s))) ∧ Below w.heap.size w w' := by
  obtain ⟨st, mk, d⟩ := s
  have h1 := h.st
  have h2 := h.mrk
  have hbl := Codec.body_length44 _ h h44
  dsimp only at h1 h2 h44
  have hnew := OutAt.new
  obtain ⟨W, hW⟩ : ∃ W, (w.alloc (.cells #[.int .i64 (st : Int), .int .u8 (mk : Int), .string (S d)] 60)).alloc (.cells #[.slice none 0 0] 107) = W := ⟨_, rfl⟩
  have hbW : Below w.heap.size w W := by rw [← hW]; exact ((Below.refl _ _).alloc (Nat.le_refl _) _).alloc (by simp) _
  have hO : OutAt W (w.heap.size + 1) [] := by
    have := OutAt.new (w.alloc (.cells #[.int .i64 (st : Int), .int .u8 (mk : Int), .string (S d)] 60))
    rw [World.size_alloc, hW] at this
    exact this
  have hcB : W.cell? ⟨w.heap.size + 1, 0, none⟩ = some (.slice none 0 0) := by
    obtain ⟨ao, c, h1, h2⟩ := hO.cell
    rw [h1]
    rcases h2.2 with ⟨e, _⟩ | ⟨g, cap, cur, e, _, hh, _⟩
    · rw [e]
    · exfalso
      rw [← hW, World.cell?_alloc2_new] at h1
      cases h1
      cases e
  have hq0 : W.heap[w.heap.size]? = some (.cells #[.int .i64 (st : Int), .int .u8 (mk : Int), .string (S d)] 60 (0, 0)) := by
    rw [← hW, Below.heap_alloc _ _ _ (by simp)]; exact heap_alloc_new w _
  have hsz : W.heap.size = w.heap.size + 1 + 1 := by rw [← hW]; simp
  have d0 : W.cell? ⟨w.heap.size, 0, none⟩ = some (.int .i64 (st : Int)) := by rw [World.cell?, hq0]; rfl
  have d1 : W.cell? ⟨w.heap.size, 1, none⟩ = some (.int .u8 (mk : Int)) := by rw [World.cell?, hq0]; rfl
  have d2 : W.cell? ⟨w.heap.size, 2, none⟩ = some (.string (S d)) := by rw [World.cell?, hq0]; rfl
  have HTN := hide (two_any hO hcB st mk h1 h2)
  have hel : (Codec.enc st ++ Codec.enc mk).length ≤ 1000 := by
    have := Codec.enc_short st (by omega)
    have := Codec.enc_short mk (by omega)
    rw [List.length_append]; omega
  have HTS := hide (fun wy (hO : OutAt wy (w.heap.size + 1) (Codec.enc st ++ Codec.enc mk)) sb hf c0 => onS_any hO hel d (by omega) sb hf c0)
  have HTT := hide (fun l wy (hO : OutAt wy (w.heap.size + 1) l) => text_any (w.heap.size + 1) l wy hO)
  have hbd : Codec.enc st ++ Codec.enc mk ++ Codec.encS d = Codec.body ⟨st, mk, d⟩ := rfl
  rw [hbd] at HTS
  have HREP := hide (fun c (hc : c ≤ 60) wy => Tryd.strings_Repeat (S [0]) c wy (by omega) (by show 1 * c ≤ _; omega))
  have HST : Hid (Codec.secText ⟨st, mk, d⟩ = Codec.sumOf (Codec.pad60 (Codec.body ⟨st, mk, d⟩)) ++ Codec.pad60 (Codec.body ⟨st, mk, d⟩)) := rfl
  obtain ⟨T, hT⟩ : ∃ T, Codec.secText ⟨st, mk, d⟩ = T := ⟨_, rfl⟩
  rw [hT] at HST
  rw [hT]
  generalize Codec.body ⟨st, mk, d⟩ = bd at *
  generalize Codec.enc st ++ Codec.enc mk = l1 at *
  have HW := hide hW
  have HBW := hide hbW
  have HO := hide hO
  have HSZ := hide hsz
  have hwm : IntKind.i64.wrap (mk : Int) = (mk : Int) := by rw [IntKind.wrap_i64]; omega
  have hne1 : w.heap.size ≠ w.heap.size + 1 := by omega
  have hltW : w.heap.size < W.heap.size := by omega
  clear hnew hW hbW hO hcB hq0 hsz hel hbd hT h
  unfold SV
  go_enter Tryd.func43, Tryd.ntmps43
  go_wp2_with fail
  rw [unhide HW]
  clear HW
  go_region_held3 (fun w' => w'.cell? ⟨w.heap.size, 0, none⟩ = some (.int .i64 (st : Int)) ∧ w'.cell? ⟨w.heap.size, 1, none⟩ = some (.int .u8 (mk : Int)) ∧ w'.cell? ⟨w.heap.size, 2, none⟩ = some (.string (S d))) (go_keep)
    (first
      | (go_at_call 59; refine (unhide HTN _ _ (by first | exact ((Below.refl _ _).alloc (Nat.le_refl _) _).drew | exact (((Below.refl _ _).alloc (Nat.le_refl _) _).alloc (by simp) _).drew) (by have := unhide HSZ; simp; omega) (by simp) (by simp)).mono ?_; rintro e w3 ⟨rfl, hO3, hs3, hk3, hbl3⟩; have d30 := World.cell?_of_block (a := ⟨w.heap.size, 0, none⟩) (hk3 w.heap.size (by simp; omega) hne1).1; have d31 := World.cell?_of_block (a := ⟨w.heap.size, 1, none⟩) (hk3 w.heap.size (by simp; omega) hne1).1; have d32 := World.cell?_of_block (a := ⟨w.heap.size, 2, none⟩) (hk3 w.heap.size (by simp; omega) hne1).1; have hc3 := fun (k : Nat) hne hc => (World.cell?_of_block (a := ⟨k, 0, none⟩) (hk3 k (cell_lt (v := .string (S d)) (o := 0) hc) hne).1).trans hc)
      | (go_at_call 60; refine (unhide HTS _ (by first | exact hO3 | exact (hO3.later ((Below.refl _ _).alloc (Nat.le_refl _) _)).1) _ (by first | exact Foreign.fresh hO3 _ | exact (hk3 _ (by first | (simp; done) | (simp; omega)) (by have := unhide HSZ; omega)).2) (by first | exact hc3 _ (by have := unhide HSZ; omega) (by simp) | simp)).mono ?_; rintro e w4 ⟨rfl, hO4, hst4⟩; have k4 : w4.heap[w.heap.size]? = w3.heap[w.heap.size]? := (by first | exact (hst4.keep w.heap.size (by simp at hs3; omega) (hk3 w.heap.size (by simp; omega) hne1).2).1 | exact (hst4.keep w.heap.size (by simp at hs3; simp; omega) ((hO3.later ((Below.refl _ _).alloc (Nat.le_refl _) _)).2.keep w.heap.size (by simp at hs3; omega) (hk3 w.heap.size (by simp; omega) hne1).2).2).1.trans (Below.heap_alloc _ _ _ (by simp at hs3; omega))); have d40 := World.cell?_of_block (a := ⟨w.heap.size, 0, none⟩) k4; have d41 := World.cell?_of_block (a := ⟨w.heap.size, 1, none⟩) k4; have d42 := World.cell?_of_block (a := ⟨w.heap.size, 2, none⟩) k4; have HO4 := hide hO4; have HB4 : Hid (Below w.heap.size w w4) := (by first | exact (((unhide HBW).trans ((((Below.refl _ _).alloc (Nat.le_refl _) _).drew).mono (by omega))).trans (hbl3 w.heap.size (by omega) (by omega))).trans ((((Below.refl _ _).alloc (Nat.le_refl _) _).mono (by simp at hs3; omega)).trans (hst4.below (hO3.later ((Below.refl _ _).alloc (Nat.le_refl _) _)).1 (by omega))) | exact (((unhide HBW).trans (((((Below.refl _ _).alloc (Nat.le_refl _) _).alloc (by simp) _).drew).mono (by omega))).trans (hbl3 w.heap.size (by omega) (by omega))).trans (hst4.below hO3 (by omega))); clear hO4 hst4)
      | (go_at_call 61; refine (unhide HTT _ _ (unhide HO4)).mono ?_; rintro e w5 ⟨rfl, rfl⟩)
      | fail)
  all_goals
    clear d30 d31 d32 d40 d41 d42 hk3 hbl3 hc3 hs3 k4 hO3
    have hbs : (S bd).size = bd.length := rfl
    obtain ⟨m, hm⟩ : ∃ m, bd.length = m := ⟨_, rfl⟩
    rw [hm] at hbs hbl
    have hmx : max (0 : Int) (60 - (m : Int)) = ((60 - m : Nat) : Int) := by omega
    have hw6 : IntKind.i64.wrap (60 - (m : Int)) = 60 - (m : Int) := by rw [IntKind.wrap_i64]; omega
    have HM := hide hm
    clear hm HTN HTS HTT d0 d1 d2
    go_wp2_with fail
    refine (unhide HREP (60 - m) (by omega) _).mono ?_
    rw [S_toList, repeat_zero]
    obtain ⟨z, hz⟩ : ∃ z : List UInt8, List.replicate (60 - m) 0 = z := ⟨_, rfl⟩
    have hzs : (⟨z.toArray⟩ : ByteArray).size = 60 - m := by rw [← hz]; simp [ByteArray.size]
    have HZ := hide hz
    rw [hz]
    rintro e w6 ⟨rfl, hb6⟩
    have hno : ¬9223372036854775807 < m + (⟨z.toArray⟩ : ByteArray).size := by omega
    have HB6 := hide ((unhide HB4).trans (hb6.mono (unhide HB4).size))
    have hpad : S bd ++ (⟨z.toArray⟩ : ByteArray) = S (Codec.pad60 bd) := by
      unfold Codec.pad60
      rw [unhide HM, unhide HZ]
      exact S_append bd z
    have hpl : (Codec.pad60 bd).length = 60 := Codec.pad60_length _ (by have := unhide HM; omega)
    have HOF := hide (fun wy => sum_any (Codec.pad60 bd) wy (by omega))
    have HFO := hide (fun wy => four_any (Codec.pad60 bd) wy)
    have hfl : (Codec.sumOf (Codec.pad60 bd)).length = 4 := rfl
    have hps : (S (Codec.pad60 bd)).size = 60 := hpl
    have hfs : (S (Codec.sumOf (Codec.pad60 bd))).size = 4 := hfl
    have hap := S_append (Codec.sumOf (Codec.pad60 bd)) (Codec.pad60 bd)
    rw [← unhide HST] at hap
    generalize Codec.sumOf (Codec.pad60 bd) = q4 at *
    generalize Crc.crc (Codec.pad60 bd) = qn at *
    generalize Codec.pad60 bd = q60 at *
    clear hz hb6 HREP
    go_wp2_with fail
    refine (unhide HOF _).mono ?_
    rintro e w7 ⟨rfl, hb7⟩
    have HB7 := hide ((unhide HB6).trans (hb7.mono (unhide HB6).size))
    clear hb7
    go_wp2_with fail
    refine (unhide HFO _).mono ?_
    rintro e w8 ⟨rfl, hb8⟩
    have HB8 := hide ((unhide HB7).trans (hb8.mono (unhide HB7).size))
    clear hb8
    go_wp2_with fail
    go_ret
    exact ⟨rfl, unhide HB8⟩
end Go.Proofs.YtajcaglbbdbibaaDoor
