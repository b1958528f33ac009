/- The walk of the law CodecPuts: for every number, whole numbers, number from 0 on and two texts the call returns true, and nothing that was there has turned. -/
import Derived.Test.YtphcbnbpbgmplabCPuts
import Derived.OpenShut
namespace Go.Proofs.Ytphcbnbpbgmplab
open Go.RowKit
set_option linter.unusedVariables false

/- A block that was made just ahead is foreign to an Out. -/
theorem OutAt.arg {w : World} {b : Nat} {l : List UInt8} (h : OutAt w b l) (o : Obj) : OutAt (w.alloc o) b l ∧ Step b w (w.alloc o) ∧ Foreign (w.alloc o) b w.heap.size := by
  obtain ⟨ho, hst⟩ := h.later (w' := w.alloc o) ((Below.refl _ _).alloc (Nat.le_refl _) _)
  refine ⟨ho, hst, by have := h.lt; omega, fun v hv e => ?_⟩
  obtain ⟨ao, c, hc, hown⟩ := h.cell
  rw [World.cell?_of_block (w := w) (a := ⟨b, 0, none⟩) (Below.heap_alloc _ _ _ h.lt), hc] at hv
  injection hv with hv
  subst hv
  have := (hown.lt _ e).2
  omega

theorem outU_two (b : Nat) (l : List UInt8) (x y : Nat) (w : World) (h : OutAt w b l) (hl : l.length ≤ 1024) (hx : x < 18446744073709551616) (hy : y < 18446744073709551616) :
    Calls Try.prog 10 #[.pointer (some ⟨b, 0, none⟩), .slice (some ⟨w.heap.size, 0, none⟩) 2 2] (w.alloc (.cells #[.int .u64 (x : Int), .int .u64 (y : Int)] 22)) fun e w' =>
      e = .returned (.pointer (some ⟨b, 0, none⟩)) ∧ OutAt w' b (l ++ (Codec.enc x ++ Codec.enc y)) ∧ Step b w w' := by
  obtain ⟨ho, hst, hfor⟩ := h.arg (.cells #[.int .u64 (x : Int), .int .u64 (y : Int)] 22)
  have hN := outU_any b l [x, y] (some ⟨w.heap.size, 0, none⟩) 2 2 _ ho rfl (by simp) (by omega)
    (by intro i hi; simp at hi; obtain rfl | rfl : i = 0 ∨ i = 1 := by omega
        all_goals simpa)
    (by
      intro i hi
      simp at hi
      refine ⟨_, _, rfl, by simp, hfor, ?_⟩
      obtain rfl | rfl : i = 0 ∨ i = 1 := by omega
      all_goals simp)
  refine hN.mono ?_
  rintro e w' ⟨rfl, h1, h2⟩
  have e : encs [x, y] = Codec.enc x ++ Codec.enc y := by simp [encs]
  rw [e] at h1
  exact ⟨rfl, h1, hst.trans h2⟩

theorem outI_two (b : Nat) (l : List UInt8) (x y : Int) (w : World) (h : OutAt w b l) (hl : l.length ≤ 1024) (hx : -9223372036854775808 ≤ x ∧ x ≤ 9223372036854775807) (hy : -9223372036854775808 ≤ y ∧ y ≤ 9223372036854775807) :
    Calls Try.prog 11 #[.pointer (some ⟨b, 0, none⟩), .slice (some ⟨w.heap.size, 0, none⟩) 2 2] (w.alloc (.cells #[.int .i64 x, .int .i64 y] 2)) fun e w' =>
      e = .returned (.pointer (some ⟨b, 0, none⟩)) ∧ OutAt w' b (l ++ (Codec.enc (Codec.fold x) ++ Codec.enc (Codec.fold y))) ∧ Step b w w' := by
  obtain ⟨ho, hst, hfor⟩ := h.arg (.cells #[.int .i64 x, .int .i64 y] 2)
  have hN := outI_any b l [x, y] (some ⟨w.heap.size, 0, none⟩) 2 2 _ ho rfl (by simp) (by omega)
    (by intro i hi; simp at hi; obtain rfl | rfl : i = 0 ∨ i = 1 := by omega
        · exact hx
        · exact hy)
    (by
      intro i hi
      simp at hi
      refine ⟨_, _, rfl, by simp, hfor, ?_⟩
      obtain rfl | rfl : i = 0 ∨ i = 1 := by omega
      all_goals simp)
  refine hN.mono ?_
  rintro e w' ⟨rfl, h1, h2⟩
  have e : encI [x, y] = Codec.enc (Codec.fold x) ++ Codec.enc (Codec.fold y) := by simp [encI]
  rw [e] at h1
  exact ⟨rfl, h1, hst.trans h2⟩

theorem outN_int (b : Nat) (l : List UInt8) (x : Int) (w : World) (h : OutAt w b l) (hl : l.length ≤ 1024) (hx : -9223372036854775808 ≤ x ∧ x ≤ 9223372036854775807) :
    Calls Try.prog 12 #[.pointer (some ⟨b, 0, none⟩), .slice (some ⟨w.heap.size, 0, none⟩) 1 1] (w.alloc (.cells #[.int .i64 x] 3)) fun e w' =>
      e = .returned (.pointer (some ⟨b, 0, none⟩)) ∧ OutAt w' b (l ++ Codec.enc (max x 0).toNat) ∧ Step b w w' := by
  obtain ⟨ho, hst, hfor⟩ := h.arg (.cells #[.int .i64 x] 3)
  have hN := outN_any b l [x] (some ⟨w.heap.size, 0, none⟩) 1 1 _ ho rfl (by simp) (by omega)
    (by intro i hi; simp at hi; subst hi; exact hx)
    (by
      intro i hi
      simp at hi
      subst hi
      refine ⟨_, _, rfl, by simp, hfor, ?_⟩
      simp)
  refine hN.mono ?_
  rintro e w' ⟨rfl, h1, h2⟩
  have e : encN [x] = Codec.enc (max x 0).toNat := by simp [encN]
  rw [e] at h1
  exact ⟨rfl, h1, hst.trans h2⟩

theorem outS_two (b : Nat) (l x y : List UInt8) (w : World) (h : OutAt w b l) (hl : l.length ≤ 1024) (hx : x.length ≤ 40) (hy : y.length ≤ 40) :
    Calls Try.prog 13 #[.pointer (some ⟨b, 0, none⟩), .slice (some ⟨w.heap.size, 0, none⟩) 2 2] (w.alloc (.cells #[.string (S x), .string (S y)] 9)) fun e w' =>
      e = .returned (.pointer (some ⟨b, 0, none⟩)) ∧ OutAt w' b (l ++ (Codec.encS x ++ Codec.encS y)) ∧ Step b w w' := by
  obtain ⟨ho, hst, hfor⟩ := h.arg (.cells #[.string (S x), .string (S y)] 9)
  have hN := outS_any b l [x, y] (some ⟨w.heap.size, 0, none⟩) 2 2 _ ho rfl (by simp) (by omega)
    (by intro i hi; simp at hi; obtain rfl | rfl : i = 0 ∨ i = 1 := by omega
        all_goals simp; omega)
    (by
      intro i hi
      simp at hi
      refine ⟨_, _, rfl, by simp, hfor, ?_⟩
      obtain rfl | rfl : i = 0 ∨ i = 1 := by omega
      all_goals simp)
  refine hN.mono ?_
  rintro e w' ⟨rfl, h1, h2⟩
  have e : encT [x, y] = Codec.encS x ++ Codec.encS y := by simp [encT]
  rw [e] at h1
  exact ⟨rfl, h1, hst.trans h2⟩

theorem enc7 : Codec.enc 7 = [1, 7] := by decide +kernel

theorem putsT (n : Nat) (k kk : Int) (c : Nat) (x y : List UInt8) :
    Codec.enc n ++ Codec.enc 7 ++ (Codec.enc (Codec.fold k) ++ Codec.enc (Codec.fold kk)) ++ Codec.enc c ++ (Codec.encS x ++ Codec.encS y) =
      Codec.enc n ++ Codec.enc 7 ++ Codec.enc (Codec.fold k) ++ Codec.enc (Codec.fold kk) ++ Codec.enc c ++ Codec.encS x ++ Codec.encS y := by
  simp only [List.append_assoc]

/- Takes in a row. -/
theorem u_takes (b n : Nat) (r : List UInt8) (w : World) (hn : n < 18446744073709551616) (h : InAt w b (Codec.enc n ++ r, 0)) :
    Calls Try.prog 20 #[.pointer (some ⟨b, 0, none⟩)] w fun e w' => e = .returned (.int .u64 (n : Int)) ∧ InAt w' b (r, 0) ∧ But b w.heap.size w w' := by
  have h1 := u_any b _ w h
  rw [Codec.takeU_enc n r hn] at h1
  exact h1
theorem i_takes (b : Nat) (k : Int) (r : List UInt8) (w : World) (hk : -9223372036854775808 ≤ k ∧ k ≤ 9223372036854775807) (h : InAt w b (Codec.enc (Codec.fold k) ++ r, 0)) :
    Calls Try.prog 21 #[.pointer (some ⟨b, 0, none⟩)] w fun e w' => e = .returned (.int .i64 k) ∧ InAt w' b (r, 0) ∧ But b w.heap.size w w' := by
  have h1 := i_any b _ w h
  rw [Codec.takeI_enc k r hk.1 hk.2] at h1
  exact h1
theorem s_takes (b : Nat) (s r : List UInt8) (w : World) (hs : s.length ≤ 40) (h : InAt w b (Codec.encS s ++ r, 0)) :
    Calls Try.prog 22 #[.pointer (some ⟨b, 0, none⟩), .int .i64 40] w fun e w' => e = .returned (.string (S s)) ∧ InAt w' b (r, 0) ∧ But b w.heap.size w w' := by
  have h1 := s_any b 40 _ w h (by omega) (by omega)
  rw [Codec.takeS_enc s r hs] at h1
  exact h1

set_option maxHeartbeats 1000000 in
theorem codecPuts_walk (a0 : Int) (w0 : (Lit.int .u64 a0).wf = true) (a1 : Int) (w1 : (Lit.int .i64 a1).wf = true) (a2 : Int) (w2 : (Lit.int .i64 a2).wf = true)
    (a3 : ByteArray) (w3 : a3.size ≤ maxLen) (a4 : ByteArray) (w4 : a4.size ≤ maxLen) (w : World) :
    Calls Try.prog 3 #[.int .u64 a0, .int .i64 a1, .int .i64 a2, .string a3, .string a4] w fun e w' => e = .returned (.bool true) ∧ Below w.heap.size w w' := by
  have hb0 := bounds_u64 w0
  have hb1 := bounds_i64 w1
  have hb2 := bounds_i64 w2
  obtain ⟨n, rfl⟩ := Int.eq_ofNat_of_zero_le hb0.1
  obtain ⟨kk, hkk⟩ : ∃ kk : Int, kk = -a1 - 1 := ⟨_, rfl⟩
  have hwk : wrap64 (wrap64 (-a1) - 1) = kk := by rw [hkk]; simp only [wrap64]; omega
  have hkb : -9223372036854775808 ≤ kk ∧ kk ≤ 9223372036854775807 := by omega
  clear hkk
  have hn : n < 18446744073709551616 := by omega
  have hcut3 := hide (cut_any a3 40 w w3)
  have hcut4 := hide (cut_any a4 40 w w4)
  have hx : (a3.data.toList.take 40).length ≤ 40 := by simp; omega
  have hy : (a4.data.toList.take 40).length ≤ 40 := by simp; omega
  generalize a3.data.toList.take 40 = x at *
  generalize a4.data.toList.take 40 = y at *
  clear w0 w1 w2 w3 w4 hb0
  go_enter Try.func3, Try.ntmps3
  go_wp2_with fail
  refine (unhide hcut3).mono ?_
  rintro e v1 ⟨rfl, rfl⟩
  go_wp2_with fail
  refine (unhide hcut4).mono ?_
  rintro e v2 ⟨rfl, rfl⟩
  go_wp2_with fail
  refine (awake_any _).mono ?_
  rintro e v3 ⟨rfl, hbw⟩
  clear hcut3 hcut4
  have ho0 := OutAt.new v3
  have hu := outU_two v3.heap.size [] n 7 _ ho0 (by simp) hn (by omega)
  have hsz : (v3.alloc (.cells #[.slice none 0 0] 27)).heap.size = v3.heap.size + 1 := by simp
  rw [hsz, List.nil_append, show ((7 : Nat) : Int) = 7 from rfl] at hu
  have HU := hide hu
  have HO0 := hide ho0
  have hbv : Below v2.heap.size v2 (v3.alloc (.cells #[.slice none 0 0] 27)) := hbw.alloc hbw.size _
  clear hu hsz ho0
  have hz2 := hbw.size
  go_wp2_with fail
  refine (unhide HU).mono ?_
  rintro e v5 ⟨rfl, ho5, hst5⟩
  have hl5 := Codec.enc_short n hn
  have hl7 : (Codec.enc 7).length = 2 := by rw [enc7]; rfl
  have HI := hide (outI_two v3.heap.size _ a1 kk v5 ho5 (by rw [List.length_append]; omega) hb1 hkb)
  clear HU ho5
  go_wp2_with fail
  refine (unhide HI).mono ?_
  rintro e v6 ⟨rfl, ho6, hst6⟩
  have hlk := Codec.enc_short _ (Codec.fold_lt a1 hb1.1 hb1.2)
  have hlkk := Codec.enc_short _ (Codec.fold_lt kk hkb.1 hkb.2)
  have hlc := Codec.enc_short (max a2 0).toNat (by omega)
  have HN := hide (outN_int v3.heap.size _ a2 v6 ho6 (by simp only [List.length_append]; omega) hb2)
  clear HI ho6
  go_wp2_with fail
  refine (unhide HN).mono ?_
  rintro e v7 ⟨rfl, ho7, hst7⟩
  have HS := hide (outS_two v3.heap.size _ x y v7 ho7 (by simp only [List.length_append]; omega) hx hy)
  clear HN ho7
  go_wp2_with fail
  refine (unhide HS).mono ?_
  rintro e v8 ⟨rfl, ho8, hst8⟩
  have hb8 : Below v2.heap.size v2 v8 := hbv.trans ((((hst5.trans hst6).trans hst7).trans hst8).below (unhide HO0) hz2)
  clear HS HO0 hbv hst5 hst6 hst7 hst8 hbw
  have hT := putsT n a1 kk (max a2 0).toNat x y
  rw [hT] at ho8
  have hEx : (Codec.encS x).length ≤ 49 := by have := Codec.enc_short x.length (by omega); simp [Codec.encS]; omega
  have hEy : (Codec.encS y).length ≤ 49 := by have := Codec.enc_short y.length (by omega); simp [Codec.encS]; omega
  have R1 := hide (fun wx => refU_any n wx hn)
  have R2 := hide (fun wx => refI_any a1 wx hb1.1 hb1.2)
  have R3 := hide (fun wx => refI_any kk wx hkb.1 hkb.2)
  have R4 := hide (fun wx => refN_any a2 wx hb2.1 hb2.2)
  have R5 := hide (fun wx => refS_any x wx (by omega))
  have R6 := hide (fun wx => refS_any y wx (by omega))
  have I1 := hide (fun bb r wx hw => u_takes bb n r wx hn hw)
  have I2 := hide (fun bb r wx hw => u_takes bb 7 r wx (by omega) hw)
  have I3 := hide (fun bb r wx hw => i_takes bb a1 r wx hb1 hw)
  have I4 := hide (fun bb r wx hw => i_takes bb kk r wx hkb hw)
  have I5 := hide (fun bb r wx hw => u_takes bb (max a2 0).toNat r wx (by omega) hw)
  have I6 := hide (fun bb r wx hw => s_takes bb x r wx hx hw)
  have I7 := hide (fun bb r wx hw => s_takes bb y r wx hy hw)
  have hmx : (((max a2 0).toNat : Nat) : Int) = max a2 0 := by omega
  rw [hmx] at I5
  rw [enc7] at *
  clear hT hmx hl7
  generalize (max a2 0).toNat = cc at *
  generalize Codec.enc n = e1 at *
  generalize Codec.enc (Codec.fold a1) = e3 at *
  generalize Codec.enc (Codec.fold kk) = e4 at *
  generalize Codec.enc cc = e5 at *
  generalize Codec.encS x = e6 at *
  generalize Codec.encS y = e7 at *
  obtain ⟨t2, ht2⟩ : ∃ t, t = e1 ++ [1, 7] := ⟨_, rfl⟩
  obtain ⟨t3, ht3⟩ : ∃ t, t = t2 ++ e3 := ⟨_, rfl⟩
  obtain ⟨t4, ht4⟩ : ∃ t, t = t3 ++ e4 := ⟨_, rfl⟩
  obtain ⟨t5, ht5⟩ : ∃ t, t = t4 ++ e5 := ⟨_, rfl⟩
  obtain ⟨t6, ht6⟩ : ∃ t, t = t5 ++ e6 := ⟨_, rfl⟩
  obtain ⟨t7, ht7⟩ : ∃ t, t = t6 ++ e7 := ⟨_, rfl⟩
  have p1 : S e1 ++ ⟨#[1, 7]⟩ = S t2 := by rw [ht2]; exact S_append e1 [1, 7]
  have p2 : S t2 ++ S e3 = S t3 := by rw [ht3]; exact S_append _ _
  have p3 : S t3 ++ S e4 = S t4 := by rw [ht4]; exact S_append _ _
  have p4 : S t4 ++ S e5 = S t5 := by rw [ht5]; exact S_append _ _
  have p5 : S t5 ++ S e6 = S t6 := by rw [ht6]; exact S_append _ _
  have p6 : S t6 ++ S e7 = S t7 := by rw [ht7]; exact S_append _ _
  have g2 : t2.length ≤ 11 := by rw [ht2, List.length_append]; simp; omega
  have g3 : t3.length ≤ 20 := by rw [ht3, List.length_append]; omega
  have g4 : t4.length ≤ 29 := by rw [ht4, List.length_append]; omega
  have g5 : t5.length ≤ 38 := by rw [ht5, List.length_append]; omega
  have g6 : t6.length ≤ 87 := by rw [ht6, List.length_append]; omega
  have g7 : t7.length ≤ 136 := by rw [ht7, List.length_append]; omega
  have z1 := S_size e1
  have z2 := S_size t2
  have z3 := S_size t3
  have z4 := S_size t4
  have z5 := S_size t5
  have z6 := S_size t6
  have y3 := S_size e3
  have y4 := S_size e4
  have y5 := S_size e5
  have y6 := S_size e6
  have y7 := S_size e7
  rw [← ht2, ← ht3, ← ht4, ← ht5, ← ht6, ← ht7] at ho8
  have HAS : Hid (t7 = e1 ++ ([1, 7] ++ (e3 ++ (e4 ++ (e5 ++ (e6 ++ (e7 ++ []))))))) := by
    show _ = _
    rw [ht7, ht6, ht5, ht4, ht3, ht2]; simp
  clear ht2 ht3 ht4 ht5 ht6 ht7
  have HTX := hide (fun wx hx => text_any v3.heap.size t7 wx hx)
  have RD := hide (fun wx => read_any t7 wx (by omega))
  have HO8 := hide ho8
  have HT8 := hide (unhide HTX v8 ho8)
  clear ho8
  go_wp2_with fail
  refine (unhide HT8).mono ?_
  rintro e v9 ⟨rfl, rfl⟩
  clear HT8
  go_wp2_with fail
  refine (unhide R1 _).mono ?_
  rintro e q1 ⟨rfl, hq1⟩
  go_wp2_with fail
  refine (unhide R2 _).mono ?_
  rintro e q2 ⟨rfl, hq2⟩
  go_wp2_with fail
  refine (unhide R3 _).mono ?_
  rintro e q3 ⟨rfl, hq3⟩
  go_wp2_with fail
  refine (unhide R4 _).mono ?_
  rintro e q4 ⟨rfl, hq4⟩
  go_wp2_with fail
  refine (unhide R5 _).mono ?_
  rintro e q5 ⟨rfl, hq5⟩
  go_wp2_with fail
  refine (unhide R6 _).mono ?_
  rintro e q6 ⟨rfl, hq6⟩
  have hbq : Below v9.heap.size v9 q6 := by
    have z1 := hq1.size
    have z2 := hq2.size
    have z3 := hq3.size
    have z4 := hq4.size
    have z5 := hq5.size
    refine ((((hq1.trans (hq2.mono ?_)).trans (hq3.mono ?_)).trans (hq4.mono ?_)).trans (hq5.mono ?_)).trans (hq6.mono ?_)
    all_goals omega
  have hb9 : Below v2.heap.size v2 q6 := hb8.trans (hbq.mono hb8.size)
  have HT9 := hide (unhide HTX q6 ((unhide HO8).later hbq).1)
  clear hq1 hq2 hq3 hq4 hq5 hq6 hbq HO8 HTX R1 R2 R3 R4 R5 R6 p1 p2 p3 p4 p5 z1 z2 z3 z4 z5 y3 y4 y5 y6 hb8
  go_wp2_with fail
  clear p6 z6 y7
  refine (unhide HT9).mono ?_
  rintro e q7 ⟨rfl, rfl⟩
  clear HT9
  go_wp2_with fail
  refine (unhide RD _).mono ?_
  rintro e m0 ⟨rfl, hinm0, hbm0, hzm0⟩
  rw [unhide HAS] at hinm0
  have HINm0 := hide hinm0
  have hb10 : Below v2.heap.size v2 m0 := hb9.trans (hbm0.mono hb9.size)
  have hbs := hb9.size
  clear hinm0 hbm0 hzm0 RD hb9
  have Hm1 := hide (unhide I1 _ _ m0 (unhide HINm0))
  clear HINm0
  go_wp2_with fail
  refine (unhide Hm1).mono ?_
  rintro e m1 ⟨rfl, hinm1, hbutm1⟩
  have HINm1 := hide hinm1
  clear hinm1 Hm1
  have Hm2 := hide (unhide I2 _ _ m1 (unhide HINm1))
  clear HINm1
  go_wp2_with fail
  refine (unhide Hm2).mono ?_
  rintro e m2 ⟨rfl, hinm2, hbutm2⟩
  have HINm2 := hide hinm2
  clear hinm2 Hm2
  have Hm3 := hide (unhide I3 _ _ m2 (unhide HINm2))
  clear HINm2
  go_wp2_with fail
  refine (unhide Hm3).mono ?_
  rintro e m3 ⟨rfl, hinm3, hbutm3⟩
  have HINm3 := hide hinm3
  clear hinm3 Hm3
  have Hm4 := hide (unhide I4 _ _ m3 (unhide HINm3))
  clear HINm3
  go_wp2_with fail
  refine (unhide Hm4).mono ?_
  rintro e m4 ⟨rfl, hinm4, hbutm4⟩
  have HINm4 := hide hinm4
  clear hinm4 Hm4
  have Hm5 := hide (unhide I5 _ _ m4 (unhide HINm4))
  clear HINm4
  go_wp2_with fail
  refine (unhide Hm5).mono ?_
  rintro e m5 ⟨rfl, hinm5, hbutm5⟩
  have HINm5 := hide hinm5
  clear hinm5 Hm5
  have Hm6 := hide (unhide I6 _ _ m5 (unhide HINm5))
  clear HINm5
  go_wp2_with fail
  refine (unhide Hm6).mono ?_
  rintro e m6 ⟨rfl, hinm6, hbutm6⟩
  have HINm6 := hide hinm6
  clear hinm6 Hm6
  have Hm7 := hide (unhide I7 _ _ m6 (unhide HINm6))
  clear HINm6
  go_wp2_with fail
  refine (unhide Hm7).mono ?_
  rintro e m7 ⟨rfl, hinm7, hbutm7⟩
  have HINm7 := hide hinm7
  clear hinm7 Hm7
  have HE := hide (end_any _ _ m7 (unhide HINm7))
  have e0 : Codec.endOf ([], 0) = ([], 0) := by decide
  rw [e0] at HE
  clear HINm7 e0
  go_wp2_with fail
  refine (unhide HE).mono ?_
  rintro e m8 ⟨rfl, _, hbutm8⟩
  have fin : Below v2.heap.size v2 m8 := by
    have s1 := hbutm1.size
    have s2 := hbutm2.size
    have s3 := hbutm3.size
    have s4 := hbutm4.size
    have s5 := hbutm5.size
    have s6 := hbutm6.size
    have s7 := hbutm7.size
    have s0 := hb10.size
    refine (((((((hb10.trans (hbutm1.below hbs ?_)).trans (hbutm2.below hbs ?_)).trans (hbutm3.below hbs ?_)).trans (hbutm4.below hbs ?_)).trans (hbutm5.below hbs ?_)).trans (hbutm6.below hbs ?_)).trans (hbutm7.below hbs ?_)).trans (hbutm8.below hbs ?_)
    all_goals omega
  clear hbutm1 hbutm2 hbutm3 hbutm4 hbutm5 hbutm6 hbutm7 hbutm8 HE
  go_wp2
  go_ret
  exact ⟨rfl, fin⟩
end Go.Proofs.Ytphcbnbpbgmplab
