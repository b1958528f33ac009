/- StampLatest's walk. -/
import Derived.Deep.DeepCutAuto
import Derived.Test.YtbggjkokfbcbcabDoorSAwake
import Derived.Test.YtbggjkokfbcbcabDoorSLatestMath
namespace Go.Proofs.YtbggjkokfbcbcabDoor
open Go.RowKit
set_option linter.unusedVariables false
set_option maxRecDepth 100000

/- What a place holds, if a sector was put there ('ok'), or none. -/
def Half (ok : Bool) (a : Int) (mk : Nat) (t x : List UInt8) : Prop :=
  x.length = 64 ∧ (ok = true → ∃ n : Nat, a = (n : Int) ∧ 1 ≤ n ∧ n ≤ 1099511627776 ∧ x = Codec.secText ⟨n, mk, t⟩) ∧ (ok = false → Codec.parse x = (⟨0, 0, []⟩, 5))
theorem chk_zero {a : Int} {t : List UInt8} (h : chk a t = 0) : ∃ n : Nat, a = (n : Int) ∧ 1 ≤ n ∧ n ≤ 1099511627776 := by
  unfold chk at h
  split at h
  · omega
  · exact ⟨a.toNat, by omega, by omega, by omega⟩
theorem Half.blank (a : Int) (mk : Nat) (t : List UInt8) : Half false a mk t (whole []) := ⟨whole_length _, fun h => (by cases h), fun _ => parse_blank⟩
theorem Half.none (a : Int) (mk : Nat) (t : List UInt8) : Half false a mk t (whole [110, 111, 110, 101]) := ⟨whole_length _, fun h => (by cases h), fun _ => parse_none⟩

set_option maxHeartbeats 6400000 in
theorem slatest_any (a : Int) (mk : Nat) (da : List UInt8) (a2 : Int) (mk2 : Nat) (db : List UInt8) (put spoil : Int) (w : World) (hmk : mk ≤ 255) (hmk2 : mk2 ≤ 255) (hda : da.length ≤ 9223372036854775807) (hdb : db.length ≤ 9223372036854775807) :
    Calls Tryd.prog 4 #[.agg #[.int .i64 a, .int .u8 (mk : Int), .string (S da)], .agg #[.int .i64 a2, .int .u8 (mk2 : Int), .string (S db)], .int .i64 put, .int .i64 spoil] w fun e w' => e = .returned (.bool true) ∧ Below w.heap.size w w' := by
  have HCA := hide (fun wy => cut_any (S da) 44 wy (by unfold maxLen; show da.length ≤ _; omega))
  have HCB := hide (fun wy => cut_any (S db) 44 wy (by unfold maxLen; show db.length ≤ _; omega))
  rw [S_toList] at HCA HCB
  have h44 : (da.take 44).length ≤ 44 := by simp; omega
  have h44b : (db.take 44).length ≤ 44 := by simp; omega
  generalize da.take 44 = ta at *
  generalize db.take 44 = tb at *
  have HAW := hide (fun wy => sawake_any wy)
  obtain ⟨W, hW⟩ : ∃ W, ((w.alloc (.cells #[.int .i64 a, .int .u8 (mk : Int), .string (S ta)] 23)).alloc (.cells #[.int .i64 a2, .int .u8 (mk2 : Int), .string (S tb)] 23)).drew = W := ⟨_, rfl⟩
  have HW := hide hW
  clear hW
  go_enter Tryd.func4, Tryd.ntmps4
  go_upto_region 1 with fail
  go_cut [] (fun wx => wx = W)
  case first =>
    refine wp_region_held_drew (S := fun _ => True) (by kernel_rfl) trivial (fun _ => ?_)
    refine wpAnyH_take (i := 0) (oi := { dst := some 24, op := _, type := _, pos := _, after := _, guard := _ }) (v := ?_) rfl (by kernel_rfl) (by kernel_rfl) (by kernel_rfl) (fun _ _ _ h => h) (Or.inl ⟨by kernel_rfl, ?_⟩) trivial ?_
    rotate_left
    · intro w hSw; go_simp; try (with_reducible rfl)
    try simp only [Act.put, List.setIfInBounds_toArray, List.set_cons_zero, List.set_cons_succ]
    refine wpAnyH_take (i := 3) (oi := { dst := some 27, op := _, type := _, pos := _, after := _, guard := _ }) (v := ?_) rfl (by kernel_rfl) (by kernel_rfl) (by kernel_rfl) (fun _ _ _ h => h) (Or.inl ⟨by kernel_rfl, ?_⟩) trivial ?_
    rotate_left
    · intro w hSw; go_simp; try (with_reducible rfl)
    try simp only [Act.put, List.setIfInBounds_toArray, List.set_cons_zero, List.set_cons_succ]
    refine wpAnyH_ready (rs := [1, 4]) (by kernel_rfl) (by simp) ?_
    refine AllReadyH.cons (o := { dst := some 25, op := _, type := _, pos := _, after := _, guard := _ }) rfl (fun K hK => ?_) (AllReadyH.cons (o := { dst := some 28, op := _, type := _, pos := _, after := _, guard := _ }) rfl (fun K hK => ?_) AllReadyH.nil)
    · go_simp
      refine hK.out _ _ trivial (fun _ => ?_)
      clear hK K
      try simp only [Act.put, List.setIfInBounds_toArray, List.set_cons_zero, List.set_cons_succ]
      refine wpAnyH_ready (rs := [2, 4]) (by kernel_rfl) (by simp) ?_
      refine AllReadyH.cons (o := { dst := some 26, op := _, type := _, pos := _, after := _, guard := _ }) rfl (fun K hK => ?_) (AllReadyH.cons (o := { dst := some 28, op := _, type := _, pos := _, after := _, guard := _ }) rfl (fun K hK => ?_) AllReadyH.nil)
      · go_simp
        refine (unhide HCA _).mono ?_
        rintro e w1 ⟨rfl, hw1⟩
        obtain rfl := hw1
        go_wp2_with fail
        refine hK.out _ _ trivial (fun _ => ?_)
        clear hK K
        try simp only [Act.put, List.setIfInBounds_toArray, List.set_cons_zero, List.set_cons_succ]
        refine wpAnyH_take (i := 6) (oi := { dst := some 30, op := _, type := _, pos := _, after := _, guard := _ }) (v := ?_) rfl (by kernel_rfl) (by kernel_rfl) (by kernel_rfl) (fun _ _ _ h => h) (Or.inl ⟨by kernel_rfl, ?_⟩) trivial ?_
        rotate_left
        · intro w hSw; go_simp; try (with_reducible rfl)
        try simp only [Act.put, List.setIfInBounds_toArray, List.set_cons_zero, List.set_cons_succ]
        refine wpAnyH_ready (rs := [4]) (by kernel_rfl) (by simp) ?_
        refine AllReadyH.cons (o := { dst := some 28, op := _, type := _, pos := _, after := _, guard := _ }) rfl (fun K hK => ?_) AllReadyH.nil
        go_simp
        refine hK.out _ _ trivial (fun _ => ?_)
        clear hK K
        try simp only [Act.put, List.setIfInBounds_toArray, List.set_cons_zero, List.set_cons_succ]
        refine wpAnyH_ready (rs := [5]) (by kernel_rfl) (by simp) ?_
        refine AllReadyH.cons (o := { dst := some 29, op := _, type := _, pos := _, after := _, guard := _ }) rfl (fun K hK => ?_) AllReadyH.nil
        go_simp
        refine (unhide HCB _).mono ?_
        rintro e w1 ⟨rfl, hw1⟩
        obtain rfl := hw1
        go_wp2_with fail
        refine hK.out _ _ trivial (fun _ => ?_)
        clear hK K
        try simp only [Act.put, List.setIfInBounds_toArray, List.set_cons_zero, List.set_cons_succ]
        refine wpAnyH_ready (rs := [7]) (by kernel_rfl) (by simp) ?_
        refine AllReadyH.cons (o := { dst := none, op := _, type := _, pos := _, after := _, guard := _ }) rfl (fun K hK => ?_) AllReadyH.nil
        go_simp
        refine hK.out _ _ trivial (fun _ => ?_)
        clear hK K
        try simp only [Act.put, List.setIfInBounds_toArray, List.set_cons_zero, List.set_cons_succ]
        refine wpAnyH_take (i := 8) (oi := { dst := some 31, op := _, type := _, pos := _, after := _, guard := _ }) (v := ?_) rfl (by kernel_rfl) (by kernel_rfl) (by kernel_rfl) (fun _ _ _ h => h) (Or.inl ⟨by kernel_rfl, ?_⟩) trivial ?_
        rotate_left
        · intro w hSw; go_simp; try (with_reducible rfl)
        try simp only [Act.put, List.setIfInBounds_toArray, List.set_cons_zero, List.set_cons_succ]
        refine wpAnyH_ready (rs := [9]) (by kernel_rfl) (by simp) ?_
        refine AllReadyH.cons (o := { dst := none, op := _, type := _, pos := _, after := _, guard := _ }) rfl (fun K hK => ?_) AllReadyH.nil
        go_simp
        refine hK.out _ _ trivial (fun _ => ?_)
        clear hK K
        try simp only [Act.put, List.setIfInBounds_toArray, List.set_cons_zero, List.set_cons_succ]
        refine wpAnyH_done (by kernel_rfl) ?_ _
        go_wp2_with fail
        go_meet
        exact unhide HW
      · go_simp
        refine hK.out _ _ trivial (fun _ => ?_)
        clear hK K
        try simp only [Act.put, List.setIfInBounds_toArray, List.set_cons_zero, List.set_cons_succ]
        refine wpAnyH_ready (rs := [2]) (by kernel_rfl) (by simp) ?_
        refine AllReadyH.cons (o := { dst := some 26, op := _, type := _, pos := _, after := _, guard := _ }) rfl (fun K hK => ?_) AllReadyH.nil
        go_simp
        refine (unhide HCA _).mono ?_
        rintro e w1 ⟨rfl, hw1⟩
        obtain rfl := hw1
        go_wp2_with fail
        refine hK.out _ _ trivial (fun _ => ?_)
        clear hK K
        try simp only [Act.put, List.setIfInBounds_toArray, List.set_cons_zero, List.set_cons_succ]
        refine wpAnyH_take (i := 6) (oi := { dst := some 30, op := _, type := _, pos := _, after := _, guard := _ }) (v := ?_) rfl (by kernel_rfl) (by kernel_rfl) (by kernel_rfl) (fun _ _ _ h => h) (Or.inl ⟨by kernel_rfl, ?_⟩) trivial ?_
        rotate_left
        · intro w hSw; go_simp; try (with_reducible rfl)
        try simp only [Act.put, List.setIfInBounds_toArray, List.set_cons_zero, List.set_cons_succ]
        refine wpAnyH_ready (rs := [5]) (by kernel_rfl) (by simp) ?_
        refine AllReadyH.cons (o := { dst := some 29, op := _, type := _, pos := _, after := _, guard := _ }) rfl (fun K hK => ?_) AllReadyH.nil
        go_simp
        refine (unhide HCB _).mono ?_
        rintro e w1 ⟨rfl, hw1⟩
        obtain rfl := hw1
        go_wp2_with fail
        refine hK.out _ _ trivial (fun _ => ?_)
        clear hK K
        try simp only [Act.put, List.setIfInBounds_toArray, List.set_cons_zero, List.set_cons_succ]
        refine wpAnyH_ready (rs := [7]) (by kernel_rfl) (by simp) ?_
        refine AllReadyH.cons (o := { dst := none, op := _, type := _, pos := _, after := _, guard := _ }) rfl (fun K hK => ?_) AllReadyH.nil
        go_simp
        refine hK.out _ _ trivial (fun _ => ?_)
        clear hK K
        try simp only [Act.put, List.setIfInBounds_toArray, List.set_cons_zero, List.set_cons_succ]
        refine wpAnyH_take (i := 8) (oi := { dst := some 31, op := _, type := _, pos := _, after := _, guard := _ }) (v := ?_) rfl (by kernel_rfl) (by kernel_rfl) (by kernel_rfl) (fun _ _ _ h => h) (Or.inl ⟨by kernel_rfl, ?_⟩) trivial ?_
        rotate_left
        · intro w hSw; go_simp; try (with_reducible rfl)
        try simp only [Act.put, List.setIfInBounds_toArray, List.set_cons_zero, List.set_cons_succ]
        refine wpAnyH_ready (rs := [9]) (by kernel_rfl) (by simp) ?_
        refine AllReadyH.cons (o := { dst := none, op := _, type := _, pos := _, after := _, guard := _ }) rfl (fun K hK => ?_) AllReadyH.nil
        go_simp
        refine hK.out _ _ trivial (fun _ => ?_)
        clear hK K
        try simp only [Act.put, List.setIfInBounds_toArray, List.set_cons_zero, List.set_cons_succ]
        refine wpAnyH_done (by kernel_rfl) ?_ _
        go_wp2_with fail
        go_meet
        exact unhide HW
    · go_simp
      refine hK.out _ _ trivial (fun _ => ?_)
      clear hK K
      try simp only [Act.put, List.setIfInBounds_toArray, List.set_cons_zero, List.set_cons_succ]
      refine wpAnyH_ready (rs := [1]) (by kernel_rfl) (by simp) ?_
      refine AllReadyH.cons (o := { dst := some 25, op := _, type := _, pos := _, after := _, guard := _ }) rfl (fun K hK => ?_) AllReadyH.nil
      go_simp
      refine hK.out _ _ trivial (fun _ => ?_)
      clear hK K
      try simp only [Act.put, List.setIfInBounds_toArray, List.set_cons_zero, List.set_cons_succ]
      refine wpAnyH_ready (rs := [2]) (by kernel_rfl) (by simp) ?_
      refine AllReadyH.cons (o := { dst := some 26, op := _, type := _, pos := _, after := _, guard := _ }) rfl (fun K hK => ?_) AllReadyH.nil
      go_simp
      refine (unhide HCA _).mono ?_
      rintro e w1 ⟨rfl, hw1⟩
      obtain rfl := hw1
      go_wp2_with fail
      refine hK.out _ _ trivial (fun _ => ?_)
      clear hK K
      try simp only [Act.put, List.setIfInBounds_toArray, List.set_cons_zero, List.set_cons_succ]
      refine wpAnyH_take (i := 6) (oi := { dst := some 30, op := _, type := _, pos := _, after := _, guard := _ }) (v := ?_) rfl (by kernel_rfl) (by kernel_rfl) (by kernel_rfl) (fun _ _ _ h => h) (Or.inl ⟨by kernel_rfl, ?_⟩) trivial ?_
      rotate_left
      · intro w hSw; go_simp; try (with_reducible rfl)
      try simp only [Act.put, List.setIfInBounds_toArray, List.set_cons_zero, List.set_cons_succ]
      refine wpAnyH_ready (rs := [5]) (by kernel_rfl) (by simp) ?_
      refine AllReadyH.cons (o := { dst := some 29, op := _, type := _, pos := _, after := _, guard := _ }) rfl (fun K hK => ?_) AllReadyH.nil
      go_simp
      refine (unhide HCB _).mono ?_
      rintro e w1 ⟨rfl, hw1⟩
      obtain rfl := hw1
      go_wp2_with fail
      refine hK.out _ _ trivial (fun _ => ?_)
      clear hK K
      try simp only [Act.put, List.setIfInBounds_toArray, List.set_cons_zero, List.set_cons_succ]
      refine wpAnyH_ready (rs := [7]) (by kernel_rfl) (by simp) ?_
      refine AllReadyH.cons (o := { dst := none, op := _, type := _, pos := _, after := _, guard := _ }) rfl (fun K hK => ?_) AllReadyH.nil
      go_simp
      refine hK.out _ _ trivial (fun _ => ?_)
      clear hK K
      try simp only [Act.put, List.setIfInBounds_toArray, List.set_cons_zero, List.set_cons_succ]
      refine wpAnyH_take (i := 8) (oi := { dst := some 31, op := _, type := _, pos := _, after := _, guard := _ }) (v := ?_) rfl (by kernel_rfl) (by kernel_rfl) (by kernel_rfl) (fun _ _ _ h => h) (Or.inl ⟨by kernel_rfl, ?_⟩) trivial ?_
      rotate_left
      · intro w hSw; go_simp; try (with_reducible rfl)
      try simp only [Act.put, List.setIfInBounds_toArray, List.set_cons_zero, List.set_cons_succ]
      refine wpAnyH_ready (rs := [9]) (by kernel_rfl) (by simp) ?_
      refine AllReadyH.cons (o := { dst := none, op := _, type := _, pos := _, after := _, guard := _ }) rfl (fun K hK => ?_) AllReadyH.nil
      go_simp
      refine hK.out _ _ trivial (fun _ => ?_)
      clear hK K
      try simp only [Act.put, List.setIfInBounds_toArray, List.set_cons_zero, List.set_cons_succ]
      refine wpAnyH_done (by kernel_rfl) ?_ _
      go_wp2_with fail
      go_meet
      exact unhide HW
  case rest =>
  obtain rfl := hcut.symm
  have hbW : Below w.heap.size w W := by rw [← unhide HW]; exact (((Below.refl _ _).alloc (Nat.le_refl _) _).alloc (by simp) _).drew
  have hszW : W.heap.size = w.heap.size + 2 := by rw [← unhide HW]; simp [World.drew]
  have hA : W.heap[w.heap.size]? = some (.cells #[.int .i64 a, .int .u8 (mk : Int), .string (S ta)] 23 (0, 0)) := by
    rw [← unhide HW]; exact (Below.heap_alloc _ _ _ (by simp)).trans (heap_alloc_new w _)
  have hB : W.heap[w.heap.size + 1]? = some (.cells #[.int .i64 a2, .int .u8 (mk2 : Int), .string (S tb)] 23 (0, 0)) := by
    rw [← unhide HW]
    have := heap_alloc_new (w.alloc (.cells #[.int .i64 a, .int .u8 (mk : Int), .string (S ta)] 23)) (.cells #[.int .i64 a2, .int .u8 (mk2 : Int), .string (S tb)] 23)
    rw [World.size_alloc] at this
    exact this
  have CELLS := hide (fun wy (hb : Below W.heap.size W wy) => (show wy.cell? ⟨w.heap.size, 0, none⟩ = some (.int .i64 a) ∧ wy.cell? ⟨w.heap.size, 1, none⟩ = some (.int .u8 (mk : Int)) ∧ wy.cell? ⟨w.heap.size, 2, none⟩ = some (.string (S ta)) ∧ wy.cell? ⟨w.heap.size + 1, 0, none⟩ = some (.int .i64 a2) ∧ wy.cell? ⟨w.heap.size + 1, 1, none⟩ = some (.int .u8 (mk2 : Int)) ∧ wy.cell? ⟨w.heap.size + 1, 2, none⟩ = some (.string (S tb)) from
    ⟨(hb.cell (p := ⟨w.heap.size, 0, none⟩) (by show w.heap.size < _; omega)).trans (bcell hA 0), (hb.cell (p := ⟨w.heap.size, 1, none⟩) (by show w.heap.size < _; omega)).trans (bcell hA 1), (hb.cell (p := ⟨w.heap.size, 2, none⟩) (by show w.heap.size < _; omega)).trans (bcell hA 2),
     (hb.cell (p := ⟨w.heap.size + 1, 0, none⟩) (by show w.heap.size + 1 < _; omega)).trans (bcell hB 0), (hb.cell (p := ⟨w.heap.size + 1, 1, none⟩) (by show w.heap.size + 1 < _; omega)).trans (bcell hB 1), (hb.cell (p := ⟨w.heap.size + 1, 2, none⟩) (by show w.heap.size + 1 < _; omega)).trans (bcell hB 2)⟩))
  have HBW := hide hbW
  clear hA hB hbW HW HCA HCB hcut
  have HNEW := hide (new_ok 3 W (by omega) (by omega))
  go_wp2_with fail
  refine (unhide HNEW).mono ?_
  rintro e wn ⟨b, rfl, hdn, hbn⟩
  have HDN := hide hdn
  have HBN := hide hbn
  clear hdn hbn HNEW
  go_wp2_with fail
  refine (unhide HAW _).mono ?_
  rintro e w2 ⟨rfl, hb2⟩
  have HD0 := hide ((unhide HDN).later hb2).1
  have HB0 := hide ((unhide HBN).trans (hb2.mono (unhide HBN).size))
  clear hb2 HDN HBN
  obtain ⟨pa, hpa⟩ : ∃ x, bits .and .i64 put 1 = x := ⟨_, rfl⟩
  obtain ⟨pb, hpb⟩ : ∃ x, bits .and .i64 put 2 = x := ⟨_, rfl⟩
  obtain ⟨pc, hpc⟩ : ∃ x, bits .and .i64 spoil 1 = x := ⟨_, rfl⟩
  have HL0 := hide LD.new
  generalize Dev.new 3 = D0 at *
  go_upto_if 44 with fail
  go_cut [11] (fun s11 wx => ∃ (ok : Bool) (D : Dev) (x0 : List UInt8), s11 = .bool ok ∧ DevAt W.heap.size wx b D ∧ Below W.heap.size W wx ∧ LD 1 D x0 (whole []) ∧ Half ok a mk ta x0)
  case first =>
    have hle := (unhide HB0).size
    by_cases hp : 0 < pa
    · obtain ⟨f0, f1, f2, f3, f4, f5⟩ := unhide CELLS _ (unhide HB0)
      by_cases hc : chk a ta = 0
      · obtain ⟨n, rfl, hn1, hn2⟩ := chk_zero hc
        have hok : (⟨n, mk, ta⟩ : Codec.Sec).Ok := ⟨hn2, hmk, by show ta.length ≤ 50; omega⟩
        have hL := unhide HL0
        have hT := Codec.secText_length ⟨n, mk, ta⟩ hok h44
        have HWR := hide (swrite_ok (unhide HD0) 0 ⟨n, mk, ta⟩ hok h44 hn1 (by rw [hL.left]; omega) (by have := hL.calls; omega) (by have := hL.wl; omega) hle)
        rw [hL.writeE 0 (by omega) (by omega) _ hT] at HWR
        have HL1 := hide (hL.write 0 (by omega) _ hT)
        rw [if_pos rfl, if_neg (by decide)] at HL1
        have HH : Hid (Half true (n : Int) mk ta (Codec.secText ⟨n, mk, ta⟩)) := ⟨hT, fun _ => ⟨n, rfl, hn1, hn2, rfl⟩, fun h => (by cases h)⟩
        have HTO := hide (fun wy => told_any (n : Int) mk ta wy (by omega))
        have HRC := hide (fun wy => refCheck_any (n : Int) (mk : Int) ta wy)
        rw [hc] at HRC
        unfold SV at HWR
        dsimp only at HWR
        rw [show ((0 : Nat) : Int) = 0 from rfl] at HL1
        generalize Codec.secText ⟨n, mk, ta⟩ = T at *
        clear hL hT hok hc
        go_wp2_with fail
        refine (unhide HWR).mono ?_
        rintro e w3 ⟨rfl, hd3, hs3⟩
        have HB3 := hide ((unhide HB0).trans (hs3.below (unhide HD0) hle))
        have HD3 := hide hd3
        clear hd3 hs3 f0 f1 f2 f3 f4 f5
        obtain ⟨f0, f1, f2, f3, f4, f5⟩ := unhide CELLS _ (unhide HB3)
        go_wp2_with fail
        refine (unhide HTO _).mono ?_
        rintro e w4 ⟨rfl, hb4⟩
        have HD4 := hide ((unhide HD3).later hb4).1
        have HB4 := hide ((unhide HB3).trans (hb4.mono (unhide HB3).size))
        clear hb4
        go_wp2_with fail
        refine (unhide HRC _).mono ?_
        rintro e w5 ⟨rfl, hb5⟩
        have HD5 := hide ((unhide HD4).later hb5).1
        have HB5 := hide ((unhide HB4).trans (hb5.mono (unhide HB4).size))
        clear hb5
        go_wp2_with fail
        go_meet
        exact ⟨true, _, _, rfl, unhide HD5, unhide HB5, unhide HL1, unhide HH⟩
      · have HWR := hide (swrite_no (unhide HD0) 0 a (mk : Int) ta hc)
        have HTO := hide (fun wy => told_any a mk ta wy (by omega))
        have HRC := hide (fun wy => refCheck_any a (mk : Int) ta wy)
        generalize chk a ta = c at *
        have hc0 : (c == 0) = false := by simpa using hc
        go_wp2_with fail
        refine (unhide HWR).mono ?_
        rintro e w3 ⟨rfl, hd3, hs3⟩
        have HB3 := hide ((unhide HB0).trans (hs3.below (unhide HD0) hle))
        have HD3 := hide hd3
        clear hd3 hs3 f0 f1 f2 f3 f4 f5
        obtain ⟨f0, f1, f2, f3, f4, f5⟩ := unhide CELLS _ (unhide HB3)
        go_wp2_with fail
        refine (unhide HTO _).mono ?_
        rintro e w4 ⟨rfl, hb4⟩
        have HD4 := hide ((unhide HD3).later hb4).1
        have HB4 := hide ((unhide HB3).trans (hb4.mono (unhide HB3).size))
        clear hb4
        go_wp2_with fail
        refine (unhide HRC _).mono ?_
        rintro e w5 ⟨rfl, hb5⟩
        have HD5 := hide ((unhide HD4).later hb5).1
        have HB5 := hide ((unhide HB4).trans (hb5.mono (unhide HB4).size))
        clear hb5
        go_wp2_with fail
        go_meet
        exact ⟨false, _, _, rfl, unhide HD5, unhide HB5, (unhide HL0).mono, Half.blank _ _ _⟩
    · go_wp2_with fail
      go_meet
      exact ⟨false, _, _, rfl, unhide HD0, unhide HB0, (unhide HL0).mono, Half.blank _ _ _⟩
  case rest =>
  obtain ⟨ok, D1, x0, rfl, hd1, hb1, hl1, hh1⟩ := hcut
  clear HD0 HB0 HL0
  have HD1 := hide hd1
  have HB1 := hide hb1
  have HL1 := hide hl1
  have HH1 := hide hh1
  clear hd1 hb1 hl1 hh1
  go_upto_if 57 with fail
  go_cut [12] (fun s12 wx => ∃ (is : Bool) (D : Dev) (x2 : List UInt8), s12 = .bool is ∧ DevAt W.heap.size wx b D ∧ Below W.heap.size W wx ∧ LD 2 D x0 x2 ∧ Half is a2 mk2 tb x2)
  case first =>
    have hle := (unhide HB1).size
    by_cases hp : 0 < pb
    · obtain ⟨f0, f1, f2, f3, f4, f5⟩ := unhide CELLS _ (unhide HB1)
      by_cases hc : chk a2 tb = 0
      · obtain ⟨n, rfl, hn1, hn2⟩ := chk_zero hc
        have hok : (⟨n, mk2, tb⟩ : Codec.Sec).Ok := ⟨hn2, hmk2, by show tb.length ≤ 50; omega⟩
        have hL := unhide HL1
        have hT := Codec.secText_length ⟨n, mk2, tb⟩ hok h44b
        have HWR := hide (swrite_ok (unhide HD1) 2 ⟨n, mk2, tb⟩ hok h44b hn1 (by rw [hL.left]; omega) (by have := hL.calls; omega) (by have := hL.wl; omega) hle)
        rw [hL.writeE 2 (by omega) (by omega) _ hT] at HWR
        have HL2 := hide (hL.write 2 (by omega) _ hT)
        rw [if_neg (by decide), if_pos rfl] at HL2
        have HH : Hid (Half true (n : Int) mk2 tb (Codec.secText ⟨n, mk2, tb⟩)) := ⟨hT, fun _ => ⟨n, rfl, hn1, hn2, rfl⟩, fun h => (by cases h)⟩
        unfold SV at HWR
        dsimp only at HWR
        rw [show ((2 : Nat) : Int) = 2 from rfl] at HL2
        generalize Codec.secText ⟨n, mk2, tb⟩ = T at *
        clear hL hT hok hc
        go_wp2_with fail
        refine (unhide HWR).mono ?_
        rintro e w3 ⟨rfl, hd3, hs3⟩
        have HB3 := hide ((unhide HB1).trans (hs3.below (unhide HD1) hle))
        have HD3 := hide hd3
        clear hd3 hs3 f0 f1 f2 f3 f4 f5
        go_wp2_with fail
        go_meet
        exact ⟨true, _, _, rfl, unhide HD3, unhide HB3, unhide HL2, unhide HH⟩
      · have HWR := hide (swrite_no (unhide HD1) 2 a2 (mk2 : Int) tb hc)
        generalize chk a2 tb = c at *
        have hc0 : (c == 0) = false := by simpa using hc
        go_wp2_with fail
        refine (unhide HWR).mono ?_
        rintro e w3 ⟨rfl, hd3, hs3⟩
        have HB3 := hide ((unhide HB1).trans (hs3.below (unhide HD1) hle))
        have HD3 := hide hd3
        clear hd3 hs3 f0 f1 f2 f3 f4 f5
        go_wp2_with fail
        go_meet
        exact ⟨false, _, _, rfl, unhide HD3, unhide HB3, (unhide HL1).mono, Half.blank _ _ _⟩
    · go_wp2_with fail
      go_meet
      exact ⟨false, _, _, rfl, unhide HD1, unhide HB1, (unhide HL1).mono, Half.blank _ _ _⟩
  case rest =>
  obtain ⟨is0, D2, x20, rfl, hd2, hb2, hl2, hh2⟩ := hcut
  clear HD1 HB1 HL1
  have HD2 := hide hd2
  have HB2 := hide hb2
  have HL2 := hide hl2
  have HH2 := hide hh2
  clear hd2 hb2 hl2 hh2
  go_upto_if 64 with fail
  go_cut [12] (fun s12 wx => ∃ (is : Bool) (D : Dev) (x2 : List UInt8), s12 = .bool is ∧ DevAt W.heap.size wx b D ∧ Below W.heap.size W wx ∧ LD 3 D x0 x2 ∧ Half is a2 mk2 tb x2)
  case first =>
    have hle := (unhide HB2).size
    by_cases hp : 0 < pc
    · have hL := unhide HL2
      have HFL := hide (flush_any (unhide HD2) hL.ok (by rw [hL.left]; omega) (by have := hL.calls; omega) (by have := hL.wl; omega) (by rw [hL.len]; omega))
      obtain ⟨hLf, hWf, hEf⟩ := hL.flush
      rw [hEf] at HFL
      have HSP := hide (fun wy (h : DevAt W.heap.size wy b D2.flush) => spoil_any h 2 [110, 111, 110, 101] (by rw [hLf.len]; omega))
      rw [show S [110, 111, 110, 101] = (⟨#[110, 111, 110, 101]⟩ : ByteArray) from rfl] at HSP
      have HL3 := hide (hLf.spoil hWf [110, 111, 110, 101])
      clear hL hLf hWf hEf
      generalize D2.flush = DF at *
      go_wp2_with fail
      refine (unhide HFL).mono ?_
      rintro e w3 ⟨rfl, hd3, hs3⟩
      have HB3 := hide ((unhide HB2).trans (hs3.below (unhide HD2) hle))
      have HD3 := hide hd3
      clear hd3 hs3
      go_wp2_with fail
      refine (unhide HSP _ (unhide HD3)).mono ?_
      rintro e w4 ⟨rfl, hd4, hs4⟩
      have HB4 := hide ((unhide HB3).trans (hs4.below (unhide HD3) (unhide HB3).size))
      have HD4 := hide hd4
      clear hd4 hs4
      go_wp2_with fail
      go_meet
      exact ⟨false, _, _, rfl, unhide HD4, unhide HB4, unhide HL3, Half.none _ _ _⟩
    · go_wp2_with fail
      go_meet
      exact ⟨is0, _, _, rfl, unhide HD2, unhide HB2, (unhide HL2).mono, unhide HH2⟩
  case rest =>
  obtain ⟨is, D, x2, rfl, hd3, hb3, hl3, hh3⟩ := hcut
  clear HD2 HB2 HL2 HH2 hpa hpb hpc
  have HB3 := hide hb3
  have hlen0 := (unhide HH1).1
  have hlen2 := hh3.1
  have HLA := hide (fun wy (hb : Below W.heap.size W wy) (h : DevAt W.heap.size wy b D) => slatest_ok h 0 2 (by have := hl3.wl; omega) (by rw [hl3.read0]; omega) (by rw [hl3.read2]; omega) hl3.readE0 hl3.readE2)
  have HLB := hide (fun wy (h : DevAt W.heap.size wy b D) => slatest_no h 0 3 (by have := hl3.wl; omega) (by rw [hl3.read0]; omega) hl3.readE0 (by rw [hl3.readE3]; decide))
  have HRD := hide (fun wy (h : DevAt W.heap.size wy b D) => sread_ok h 0 (by have := hl3.wl; omega) (by rw [hl3.read0]; omega) hl3.readE0)
  rw [hl3.read0, hl3.read2] at HLA
  rw [hl3.readE3] at HLB
  rw [hl3.read0] at HRD
  have HD3 := hide hd3
  have HH3 := hide hh3
  clear hd3 hb3 hl3 hh3 hlen0 hlen2
  have hS0 : S [] = (⟨#[]⟩ : ByteArray) := rfl
  unfold SV at HLB
  dsimp only at HLB
  rw [hS0] at HLB
  cases ok with
  | true =>
    obtain ⟨n, rfl, hn1, hn2, hx⟩ := (unhide HH1).2.1 rfl
    have hpx : Codec.parse x0 = (⟨n, mk, ta⟩, 0) := by rw [hx]; exact Codec.parse_text _ ⟨hn2, hmk, Nat.le_trans h44 (by decide)⟩ h44 hn1
    rw [hpx] at HLA HRD
    clear hpx hx
    unfold SV at HRD
    dsimp only at HRD
    rw [show ((0 : Int) == 0) = true from rfl] at HRD
    cases is with
    | true =>
      obtain ⟨k, rfl, hk1, hk2, hy⟩ := (unhide HH3).2.1 rfl
      have hpy : Codec.parse x2 = (⟨k, mk2, tb⟩, 0) := by rw [hy]; exact Codec.parse_text _ ⟨hk2, hmk2, Nat.le_trans h44b (by decide)⟩ h44b hk1
      rw [hpy] at HLA
      clear hpy hy
      by_cases hlt : n < k
      · rw [show newer ⟨n, mk, ta⟩ ⟨k, mk2, tb⟩ 0 2 = (⟨k, mk2, tb⟩, 2) from if_pos hlt] at HLA
        unfold SV at HLA
        dsimp only at HLA
        have hgt : (n : Int) < (k : Int) := by omega
        clear HH1 HH3
        go_wp2_with fail
        refine (unhide HLA _ (unhide HB3) (unhide HD3)).mono ?_
        rintro e w1 ⟨rfl, hb1⟩
        have HD4 := hide ((unhide HD3).later hb1).1
        have HB4 := hide ((unhide HB3).trans (hb1.mono (unhide HB3).size))
        clear hb1 HD3 HB3 HLA
        go_wp2_with fail
        refine (unhide HLB _ ?_).mono ?_
        · exact ((unhide HD4).later ((Below.refl _ w1).alloc (Nat.le_refl _) _)).1
        rintro e w2 ⟨rfl, hb2⟩
        have hx2 : w2.heap[w1.heap.size]? = some (.cells #[.int .i64 (k : Int), .int .u8 (mk2 : Int), .string (S tb)] 23 (0, 0)) := (hb2.block w1.heap.size (by simp)).trans (heap_alloc_new w1 _)
        have hd5 := ((unhide HD4).later (((Below.refl _ w1).alloc (Nat.le_refl _) (.cells #[.int .i64 (k : Int), .int .u8 (mk2 : Int), .string (S tb)] 23)).trans (hb2.mono (by simp)))).1
        have hb5 := (unhide HB4).trans ((((Below.refl _ w1).alloc (Nat.le_refl _) (.cells #[.int .i64 (k : Int), .int .u8 (mk2 : Int), .string (S tb)] 23)).trans (hb2.mono (by simp))).mono (unhide HB4).size)
        have hlt5 := blt hx2
        have hsz5 := hb5.size
        obtain ⟨f0, f1, f2, f3, f4, f5⟩ := unhide CELLS ((w2.alloc (.cells #[.int .i64 0, .int .u8 0, .string ⟨#[]⟩] 23)).alloc (.cells #[.int .i64 0, .int .u8 0, .string ⟨#[]⟩] 23)) ((hb5.alloc hsz5 _).alloc (by simp; omega) _)
        have HX2 := hide hx2
        have HD5 := hide hd5
        have HB5 := hide hb5
        clear hb2 hx2 hd5 hb5 HD4 HB4 HLB
        go_wp2_with fail
        refine (unhide HRD _ ?_).mono ?_
        · exact ((unhide HD5).later (((Below.refl _ w2).alloc (Nat.le_refl _) _).alloc (by simp) _)).1
        rintro e w3 ⟨rfl, hb3⟩
        have hw3 : w3.heap[w2.heap.size + 1]? = some (.cells #[.int .i64 (k : Int), .int .u8 (mk2 : Int), .string (S tb)] 23 (0, 0)) := by
          have h := heap_alloc_new (w2.alloc (.cells #[.int .i64 0, .int .u8 0, .string ⟨#[]⟩] 23)) (.cells #[.int .i64 (k : Int), .int .u8 (mk2 : Int), .string (S tb)] 23)
          rw [World.size_alloc] at h
          exact (hb3.block (w2.heap.size + 1) (by simp)).trans h
        have hb23 := (((Below.refl w2.heap.size w2).alloc (Nat.le_refl _) (.cells #[.int .i64 0, .int .u8 0, .string ⟨#[]⟩] 23)).alloc (by simp) (.cells #[.int .i64 (k : Int), .int .u8 (mk2 : Int), .string (S tb)] 23)).trans (hb3.mono (by simp; omega))
        have hx3 : w3.heap[w1.heap.size]? = some (.cells #[.int .i64 (k : Int), .int .u8 (mk2 : Int), .string (S tb)] 23 (0, 0)) := (hb23.block w1.heap.size hlt5).trans (unhide HX2)
        have hb6 := (unhide HB5).trans (hb23.mono hsz5)
        have hsz6 := hb6.size
        have HB6 := hide hb6
        have q0 := fun o => (bcell ((Below.heap_alloc w3 o _ (blt hx3)).trans hx3) 0)
        have q1 := fun o => (bcell ((Below.heap_alloc w3 o _ (blt hx3)).trans hx3) 1)
        have q2 := fun o => (bcell ((Below.heap_alloc w3 o _ (blt hx3)).trans hx3) 2)
        have q3 := fun o => (bcell ((Below.heap_alloc w3 o _ (blt hw3)).trans hw3) 0)
        have q4 := fun o => (bcell ((Below.heap_alloc w3 o _ (blt hw3)).trans hw3) 1)
        have q5 := fun o => (bcell ((Below.heap_alloc w3 o _ (blt hw3)).trans hw3) 2)
        simp only [List.getElem?_toArray, List.getElem?_cons_zero, List.getElem?_cons_succ] at q0 q1 q2 q3 q4 q5
        clear f0 f1 f2 f3 f4 f5
        obtain ⟨f0, f1, f2, f3, f4, f5⟩ := unhide CELLS (w3.alloc (.cells #[.int .i64 (n : Int), .int .u8 (mk : Int), .string (S ta)] 23)) (hb6.alloc hsz6 _)
        clear hb3 hw3 hb23 hx3 hb6 HB5 HX2 HD5 hlt5 hsz5 HRD
        go_wp2_with fail
        go_ret
        exact ⟨rfl, (unhide HBW).trans (((unhide HB6).alloc hsz6 _).mono (by omega))⟩
      · rw [show newer ⟨n, mk, ta⟩ ⟨k, mk2, tb⟩ 0 2 = (⟨n, mk, ta⟩, 0) from (if_neg hlt).trans (if_pos (by show 0 < n; omega))] at HLA
        unfold SV at HLA
        dsimp only at HLA
        have hgt : ¬ ((n : Int) < (k : Int)) := by omega
        clear HH1 HH3
        go_wp2_with fail
        refine (unhide HLA _ (unhide HB3) (unhide HD3)).mono ?_
        rintro e w1 ⟨rfl, hb1⟩
        have HD4 := hide ((unhide HD3).later hb1).1
        have HB4 := hide ((unhide HB3).trans (hb1.mono (unhide HB3).size))
        clear hb1 HD3 HB3 HLA
        go_wp2_with fail
        refine (unhide HLB _ ?_).mono ?_
        · exact ((unhide HD4).later ((Below.refl _ w1).alloc (Nat.le_refl _) _)).1
        rintro e w2 ⟨rfl, hb2⟩
        have hx2 : w2.heap[w1.heap.size]? = some (.cells #[.int .i64 (n : Int), .int .u8 (mk : Int), .string (S ta)] 23 (0, 0)) := (hb2.block w1.heap.size (by simp)).trans (heap_alloc_new w1 _)
        have hd5 := ((unhide HD4).later (((Below.refl _ w1).alloc (Nat.le_refl _) (.cells #[.int .i64 (n : Int), .int .u8 (mk : Int), .string (S ta)] 23)).trans (hb2.mono (by simp)))).1
        have hb5 := (unhide HB4).trans ((((Below.refl _ w1).alloc (Nat.le_refl _) (.cells #[.int .i64 (n : Int), .int .u8 (mk : Int), .string (S ta)] 23)).trans (hb2.mono (by simp))).mono (unhide HB4).size)
        have hlt5 := blt hx2
        have hsz5 := hb5.size
        obtain ⟨f0, f1, f2, f3, f4, f5⟩ := unhide CELLS ((w2.alloc (.cells #[.int .i64 0, .int .u8 0, .string ⟨#[]⟩] 23)).alloc (.cells #[.int .i64 0, .int .u8 0, .string ⟨#[]⟩] 23)) ((hb5.alloc hsz5 _).alloc (by simp; omega) _)
        have HX2 := hide hx2
        have HD5 := hide hd5
        have HB5 := hide hb5
        clear hb2 hx2 hd5 hb5 HD4 HB4 HLB
        go_wp2_with fail
        refine (unhide HRD _ ?_).mono ?_
        · exact ((unhide HD5).later (((Below.refl _ w2).alloc (Nat.le_refl _) _).alloc (by simp) _)).1
        rintro e w3 ⟨rfl, hb3⟩
        have hw3 : w3.heap[w2.heap.size + 1]? = some (.cells #[.int .i64 (n : Int), .int .u8 (mk : Int), .string (S ta)] 23 (0, 0)) := by
          have h := heap_alloc_new (w2.alloc (.cells #[.int .i64 0, .int .u8 0, .string ⟨#[]⟩] 23)) (.cells #[.int .i64 (n : Int), .int .u8 (mk : Int), .string (S ta)] 23)
          rw [World.size_alloc] at h
          exact (hb3.block (w2.heap.size + 1) (by simp)).trans h
        have hb23 := (((Below.refl w2.heap.size w2).alloc (Nat.le_refl _) (.cells #[.int .i64 0, .int .u8 0, .string ⟨#[]⟩] 23)).alloc (by simp) (.cells #[.int .i64 (n : Int), .int .u8 (mk : Int), .string (S ta)] 23)).trans (hb3.mono (by simp; omega))
        have hx3 : w3.heap[w1.heap.size]? = some (.cells #[.int .i64 (n : Int), .int .u8 (mk : Int), .string (S ta)] 23 (0, 0)) := (hb23.block w1.heap.size hlt5).trans (unhide HX2)
        have hb6 := (unhide HB5).trans (hb23.mono hsz5)
        have hsz6 := hb6.size
        have HB6 := hide hb6
        have q0 := fun o => (bcell ((Below.heap_alloc w3 o _ (blt hx3)).trans hx3) 0)
        have q1 := fun o => (bcell ((Below.heap_alloc w3 o _ (blt hx3)).trans hx3) 1)
        have q2 := fun o => (bcell ((Below.heap_alloc w3 o _ (blt hx3)).trans hx3) 2)
        have q3 := fun o => (bcell ((Below.heap_alloc w3 o _ (blt hw3)).trans hw3) 0)
        have q4 := fun o => (bcell ((Below.heap_alloc w3 o _ (blt hw3)).trans hw3) 1)
        have q5 := fun o => (bcell ((Below.heap_alloc w3 o _ (blt hw3)).trans hw3) 2)
        simp only [List.getElem?_toArray, List.getElem?_cons_zero, List.getElem?_cons_succ] at q0 q1 q2 q3 q4 q5
        clear f0 f1 f2 f3 f4 f5
        obtain ⟨f0, f1, f2, f3, f4, f5⟩ := unhide CELLS (w3.alloc (.cells #[.int .i64 (n : Int), .int .u8 (mk : Int), .string (S ta)] 23)) (hb6.alloc hsz6 _)
        clear hb3 hw3 hb23 hx3 hb6 HB5 HX2 HD5 hlt5 hsz5 HRD
        go_wp2_with fail
        go_ret
        exact ⟨rfl, (unhide HBW).trans (((unhide HB6).alloc hsz6 _).mono (by omega))⟩
    | false =>
      rw [(unhide HH3).2.2 rfl] at HLA
      rw [show newer ⟨n, mk, ta⟩ ⟨0, 0, []⟩ 0 2 = (⟨n, mk, ta⟩, 0) from (if_neg (Nat.not_lt_zero _)).trans (if_pos (by show 0 < n; omega))] at HLA
      unfold SV at HLA
      dsimp only at HLA
      clear HH1 HH3
      go_wp2_with fail
      refine (unhide HLA _ (unhide HB3) (unhide HD3)).mono ?_
      rintro e w1 ⟨rfl, hb1⟩
      have HD4 := hide ((unhide HD3).later hb1).1
      have HB4 := hide ((unhide HB3).trans (hb1.mono (unhide HB3).size))
      clear hb1 HD3 HB3 HLA
      go_wp2_with fail
      refine (unhide HLB _ ?_).mono ?_
      · exact ((unhide HD4).later ((Below.refl _ w1).alloc (Nat.le_refl _) _)).1
      rintro e w2 ⟨rfl, hb2⟩
      have hx2 : w2.heap[w1.heap.size]? = some (.cells #[.int .i64 (n : Int), .int .u8 (mk : Int), .string (S ta)] 23 (0, 0)) := (hb2.block w1.heap.size (by simp)).trans (heap_alloc_new w1 _)
      have hd5 := ((unhide HD4).later (((Below.refl _ w1).alloc (Nat.le_refl _) (.cells #[.int .i64 (n : Int), .int .u8 (mk : Int), .string (S ta)] 23)).trans (hb2.mono (by simp)))).1
      have hb5 := (unhide HB4).trans ((((Below.refl _ w1).alloc (Nat.le_refl _) (.cells #[.int .i64 (n : Int), .int .u8 (mk : Int), .string (S ta)] 23)).trans (hb2.mono (by simp))).mono (unhide HB4).size)
      have hlt5 := blt hx2
      have hsz5 := hb5.size
      obtain ⟨f0, f1, f2, f3, f4, f5⟩ := unhide CELLS ((w2.alloc (.cells #[.int .i64 0, .int .u8 0, .string ⟨#[]⟩] 23)).alloc (.cells #[.int .i64 0, .int .u8 0, .string ⟨#[]⟩] 23)) ((hb5.alloc hsz5 _).alloc (by simp; omega) _)
      have HX2 := hide hx2
      have HD5 := hide hd5
      have HB5 := hide hb5
      clear hb2 hx2 hd5 hb5 HD4 HB4 HLB
      go_wp2_with fail
      refine (unhide HRD _ ?_).mono ?_
      · exact ((unhide HD5).later (((Below.refl _ w2).alloc (Nat.le_refl _) _).alloc (by simp) _)).1
      rintro e w3 ⟨rfl, hb3⟩
      have hw3 : w3.heap[w2.heap.size + 1]? = some (.cells #[.int .i64 (n : Int), .int .u8 (mk : Int), .string (S ta)] 23 (0, 0)) := by
        have h := heap_alloc_new (w2.alloc (.cells #[.int .i64 0, .int .u8 0, .string ⟨#[]⟩] 23)) (.cells #[.int .i64 (n : Int), .int .u8 (mk : Int), .string (S ta)] 23)
        rw [World.size_alloc] at h
        exact (hb3.block (w2.heap.size + 1) (by simp)).trans h
      have hb23 := (((Below.refl w2.heap.size w2).alloc (Nat.le_refl _) (.cells #[.int .i64 0, .int .u8 0, .string ⟨#[]⟩] 23)).alloc (by simp) (.cells #[.int .i64 (n : Int), .int .u8 (mk : Int), .string (S ta)] 23)).trans (hb3.mono (by simp; omega))
      have hx3 : w3.heap[w1.heap.size]? = some (.cells #[.int .i64 (n : Int), .int .u8 (mk : Int), .string (S ta)] 23 (0, 0)) := (hb23.block w1.heap.size hlt5).trans (unhide HX2)
      have hb6 := (unhide HB5).trans (hb23.mono hsz5)
      have hsz6 := hb6.size
      have HB6 := hide hb6
      have q0 := fun o => (bcell ((Below.heap_alloc w3 o _ (blt hx3)).trans hx3) 0)
      have q1 := fun o => (bcell ((Below.heap_alloc w3 o _ (blt hx3)).trans hx3) 1)
      have q2 := fun o => (bcell ((Below.heap_alloc w3 o _ (blt hx3)).trans hx3) 2)
      have q3 := fun o => (bcell ((Below.heap_alloc w3 o _ (blt hw3)).trans hw3) 0)
      have q4 := fun o => (bcell ((Below.heap_alloc w3 o _ (blt hw3)).trans hw3) 1)
      have q5 := fun o => (bcell ((Below.heap_alloc w3 o _ (blt hw3)).trans hw3) 2)
      simp only [List.getElem?_toArray, List.getElem?_cons_zero, List.getElem?_cons_succ] at q0 q1 q2 q3 q4 q5
      clear f0 f1 f2 f3 f4 f5
      obtain ⟨f0, f1, f2, f3, f4, f5⟩ := unhide CELLS (w3.alloc (.cells #[.int .i64 (n : Int), .int .u8 (mk : Int), .string (S ta)] 23)) (hb6.alloc hsz6 _)
      clear hb3 hw3 hb23 hx3 hb6 HB5 HX2 HD5 hlt5 hsz5 HRD
      go_wp2_with fail
      go_ret
      exact ⟨rfl, (unhide HBW).trans (((unhide HB6).alloc hsz6 _).mono (by omega))⟩
  | false =>
    rw [(unhide HH1).2.2 rfl] at HLA HRD
    unfold SV at HRD
    dsimp only at HRD
    rw [hS0, show ((5 : Int) == 0) = false from rfl] at HRD
    cases is with
    | true =>
      obtain ⟨k, rfl, hk1, hk2, hy⟩ := (unhide HH3).2.1 rfl
      have hpy : Codec.parse x2 = (⟨k, mk2, tb⟩, 0) := by rw [hy]; exact Codec.parse_text _ ⟨hk2, hmk2, Nat.le_trans h44b (by decide)⟩ h44b hk1
      rw [hpy] at HLA
      clear hpy hy
      rw [show newer ⟨0, 0, []⟩ ⟨k, mk2, tb⟩ 0 2 = (⟨k, mk2, tb⟩, 2) from if_pos (by show 0 < k; omega)] at HLA
      unfold SV at HLA
      dsimp only at HLA
      clear HH1 HH3
      go_wp2_with fail
      refine (unhide HLA _ (unhide HB3) (unhide HD3)).mono ?_
      rintro e w1 ⟨rfl, hb1⟩
      have HD4 := hide ((unhide HD3).later hb1).1
      have HB4 := hide ((unhide HB3).trans (hb1.mono (unhide HB3).size))
      clear hb1 HD3 HB3 HLA
      go_wp2_with fail
      refine (unhide HLB _ ?_).mono ?_
      · exact ((unhide HD4).later ((Below.refl _ w1).alloc (Nat.le_refl _) _)).1
      rintro e w2 ⟨rfl, hb2⟩
      have hx2 : w2.heap[w1.heap.size]? = some (.cells #[.int .i64 (k : Int), .int .u8 (mk2 : Int), .string (S tb)] 23 (0, 0)) := (hb2.block w1.heap.size (by simp)).trans (heap_alloc_new w1 _)
      have hd5 := ((unhide HD4).later (((Below.refl _ w1).alloc (Nat.le_refl _) (.cells #[.int .i64 (k : Int), .int .u8 (mk2 : Int), .string (S tb)] 23)).trans (hb2.mono (by simp)))).1
      have hb5 := (unhide HB4).trans ((((Below.refl _ w1).alloc (Nat.le_refl _) (.cells #[.int .i64 (k : Int), .int .u8 (mk2 : Int), .string (S tb)] 23)).trans (hb2.mono (by simp))).mono (unhide HB4).size)
      have hlt5 := blt hx2
      have hsz5 := hb5.size
      obtain ⟨f0, f1, f2, f3, f4, f5⟩ := unhide CELLS ((w2.alloc (.cells #[.int .i64 0, .int .u8 0, .string ⟨#[]⟩] 23)).alloc (.cells #[.int .i64 0, .int .u8 0, .string ⟨#[]⟩] 23)) ((hb5.alloc hsz5 _).alloc (by simp; omega) _)
      have HX2 := hide hx2
      have HD5 := hide hd5
      have HB5 := hide hb5
      clear hb2 hx2 hd5 hb5 HD4 HB4 HLB
      go_wp2_with fail
      refine (unhide HRD _ ?_).mono ?_
      · exact ((unhide HD5).later (((Below.refl _ w2).alloc (Nat.le_refl _) _).alloc (by simp) _)).1
      rintro e w3 ⟨rfl, hb3⟩
      have hw3 : w3.heap[w2.heap.size + 1]? = some (.cells #[.int .i64 (k : Int), .int .u8 (mk2 : Int), .string (S tb)] 23 (0, 0)) := by
        have h := heap_alloc_new (w2.alloc (.cells #[.int .i64 0, .int .u8 0, .string ⟨#[]⟩] 23)) (.cells #[.int .i64 (k : Int), .int .u8 (mk2 : Int), .string (S tb)] 23)
        rw [World.size_alloc] at h
        exact (hb3.block (w2.heap.size + 1) (by simp)).trans h
      have hb23 := (((Below.refl w2.heap.size w2).alloc (Nat.le_refl _) (.cells #[.int .i64 0, .int .u8 0, .string ⟨#[]⟩] 23)).alloc (by simp) (.cells #[.int .i64 (k : Int), .int .u8 (mk2 : Int), .string (S tb)] 23)).trans (hb3.mono (by simp; omega))
      have hx3 : w3.heap[w1.heap.size]? = some (.cells #[.int .i64 (k : Int), .int .u8 (mk2 : Int), .string (S tb)] 23 (0, 0)) := (hb23.block w1.heap.size hlt5).trans (unhide HX2)
      have hb6 := (unhide HB5).trans (hb23.mono hsz5)
      have hsz6 := hb6.size
      have HB6 := hide hb6
      have q0 := fun o => (bcell ((Below.heap_alloc w3 o _ (blt hx3)).trans hx3) 0)
      have q1 := fun o => (bcell ((Below.heap_alloc w3 o _ (blt hx3)).trans hx3) 1)
      have q2 := fun o => (bcell ((Below.heap_alloc w3 o _ (blt hx3)).trans hx3) 2)
      have q3 := fun o => (bcell ((Below.heap_alloc w3 o _ (blt hw3)).trans hw3) 0)
      have q4 := fun o => (bcell ((Below.heap_alloc w3 o _ (blt hw3)).trans hw3) 1)
      have q5 := fun o => (bcell ((Below.heap_alloc w3 o _ (blt hw3)).trans hw3) 2)
      simp only [List.getElem?_toArray, List.getElem?_cons_zero, List.getElem?_cons_succ] at q0 q1 q2 q3 q4 q5
      clear f0 f1 f2 f3 f4 f5
      obtain ⟨f0, f1, f2, f3, f4, f5⟩ := unhide CELLS (w3.alloc (.cells #[.int .i64 0, .int .u8 0, .string ⟨#[]⟩] 23)) (hb6.alloc hsz6 _)
      clear hb3 hw3 hb23 hx3 hb6 HB5 HX2 HD5 hlt5 hsz5 HRD
      go_wp2_with fail
      go_ret
      exact ⟨rfl, (unhide HBW).trans (((unhide HB6).alloc hsz6 _).mono (by omega))⟩
    | false =>
      rw [(unhide HH3).2.2 rfl] at HLA
      rw [show newer ⟨0, 0, []⟩ ⟨0, 0, []⟩ 0 2 = (⟨0, 0, []⟩, -1) from rfl] at HLA
      unfold SV at HLA
      dsimp only at HLA
      rw [hS0] at HLA
      clear HH1 HH3
      go_wp2_with fail
      refine (unhide HLA _ (unhide HB3) (unhide HD3)).mono ?_
      rintro e w1 ⟨rfl, hb1⟩
      have HD4 := hide ((unhide HD3).later hb1).1
      have HB4 := hide ((unhide HB3).trans (hb1.mono (unhide HB3).size))
      clear hb1 HD3 HB3 HLA
      go_wp2_with fail
      refine (unhide HLB _ ?_).mono ?_
      · exact ((unhide HD4).later ((Below.refl _ w1).alloc (Nat.le_refl _) _)).1
      rintro e w2 ⟨rfl, hb2⟩
      have hx2 : w2.heap[w1.heap.size]? = some (.cells #[.int .i64 0, .int .u8 0, .string ⟨#[]⟩] 23 (0, 0)) := (hb2.block w1.heap.size (by simp)).trans (heap_alloc_new w1 _)
      have hd5 := ((unhide HD4).later (((Below.refl _ w1).alloc (Nat.le_refl _) (.cells #[.int .i64 0, .int .u8 0, .string ⟨#[]⟩] 23)).trans (hb2.mono (by simp)))).1
      have hb5 := (unhide HB4).trans ((((Below.refl _ w1).alloc (Nat.le_refl _) (.cells #[.int .i64 0, .int .u8 0, .string ⟨#[]⟩] 23)).trans (hb2.mono (by simp))).mono (unhide HB4).size)
      have hlt5 := blt hx2
      have hsz5 := hb5.size
      obtain ⟨f0, f1, f2, f3, f4, f5⟩ := unhide CELLS ((w2.alloc (.cells #[.int .i64 0, .int .u8 0, .string ⟨#[]⟩] 23)).alloc (.cells #[.int .i64 0, .int .u8 0, .string ⟨#[]⟩] 23)) ((hb5.alloc hsz5 _).alloc (by simp; omega) _)
      have HX2 := hide hx2
      have HD5 := hide hd5
      have HB5 := hide hb5
      clear hb2 hx2 hd5 hb5 HD4 HB4 HLB
      go_wp2_with fail
      refine (unhide HRD _ ?_).mono ?_
      · exact ((unhide HD5).later (((Below.refl _ w2).alloc (Nat.le_refl _) _).alloc (by simp) _)).1
      rintro e w3 ⟨rfl, hb3⟩
      have hw3 : w3.heap[w2.heap.size + 1]? = some (.cells #[.int .i64 0, .int .u8 0, .string ⟨#[]⟩] 23 (0, 0)) := by
        have h := heap_alloc_new (w2.alloc (.cells #[.int .i64 0, .int .u8 0, .string ⟨#[]⟩] 23)) (.cells #[.int .i64 0, .int .u8 0, .string ⟨#[]⟩] 23)
        rw [World.size_alloc] at h
        exact (hb3.block (w2.heap.size + 1) (by simp)).trans h
      have hb23 := (((Below.refl w2.heap.size w2).alloc (Nat.le_refl _) (.cells #[.int .i64 0, .int .u8 0, .string ⟨#[]⟩] 23)).alloc (by simp) (.cells #[.int .i64 0, .int .u8 0, .string ⟨#[]⟩] 23)).trans (hb3.mono (by simp; omega))
      have hx3 : w3.heap[w1.heap.size]? = some (.cells #[.int .i64 0, .int .u8 0, .string ⟨#[]⟩] 23 (0, 0)) := (hb23.block w1.heap.size hlt5).trans (unhide HX2)
      have hb6 := (unhide HB5).trans (hb23.mono hsz5)
      have hsz6 := hb6.size
      have HB6 := hide hb6
      have q0 := fun o => (bcell ((Below.heap_alloc w3 o _ (blt hx3)).trans hx3) 0)
      have q1 := fun o => (bcell ((Below.heap_alloc w3 o _ (blt hx3)).trans hx3) 1)
      have q2 := fun o => (bcell ((Below.heap_alloc w3 o _ (blt hx3)).trans hx3) 2)
      have q3 := fun o => (bcell ((Below.heap_alloc w3 o _ (blt hw3)).trans hw3) 0)
      have q4 := fun o => (bcell ((Below.heap_alloc w3 o _ (blt hw3)).trans hw3) 1)
      have q5 := fun o => (bcell ((Below.heap_alloc w3 o _ (blt hw3)).trans hw3) 2)
      simp only [List.getElem?_toArray, List.getElem?_cons_zero, List.getElem?_cons_succ] at q0 q1 q2 q3 q4 q5
      clear f0 f1 f2 f3 f4 f5
      obtain ⟨f0, f1, f2, f3, f4, f5⟩ := unhide CELLS (w3.alloc (.cells #[.int .i64 0, .int .u8 0, .string ⟨#[]⟩] 23)) (hb6.alloc hsz6 _)
      clear hb3 hw3 hb23 hx3 hb6 HB5 HX2 HD5 hlt5 hsz5 HRD
      go_wp2_with fail
      go_ret
      exact ⟨rfl, (unhide HBW).trans (((unhide HB6).alloc hsz6 _).mono (by omega))⟩

theorem stampLatest_walk (a : Int) (ha : (Lit.int .i64 a).wf = true) (mk : Int) (hm : (Lit.int .u8 mk).wf = true) (d : ByteArray) (hd : d.size ≤ maxLen)
    (a2 : Int) (ha2 : (Lit.int .i64 a2).wf = true) (mk2 : Int) (hm2 : (Lit.int .u8 mk2).wf = true) (d2 : ByteArray) (hd2 : d2.size ≤ maxLen)
    (put : Int) (hp : (Lit.int .i64 put).wf = true) (spoil : Int) (hs : (Lit.int .i64 spoil).wf = true) (w : World) :
    Calls Tryd.prog 4 #[.agg #[.int .i64 a, .int .u8 mk, .string d], .agg #[.int .i64 a2, .int .u8 mk2, .string d2], .int .i64 put, .int .i64 spoil] w fun e w' => e = .returned (.bool true) ∧ Below w.heap.size w w' := by
  obtain ⟨h0, h1⟩ : 0 ≤ mk ∧ mk ≤ 255 := by simpa [Lit.wf, IntKind.min, IntKind.max, IntKind.signed, IntKind.bits] using hm
  obtain ⟨n, rfl⟩ : ∃ n : Nat, mk = (n : Int) := ⟨mk.toNat, by omega⟩
  obtain ⟨h2, h3⟩ : 0 ≤ mk2 ∧ mk2 ≤ 255 := by simpa [Lit.wf, IntKind.min, IntKind.max, IntKind.signed, IntKind.bits] using hm2
  obtain ⟨n2, rfl⟩ : ∃ n : Nat, mk2 = (n : Int) := ⟨mk2.toNat, by omega⟩
  have e : S d.data.toList = d := by cases d; simp [S]
  have e2 : S d2.data.toList = d2 := by cases d2; simp [S]
  have l1 : d.data.toList.length ≤ 9223372036854775807 := by
    have : d.data.toList.length = d.size := Array.length_toList
    unfold maxLen at hd; omega
  have l2 : d2.data.toList.length ≤ 9223372036854775807 := by
    have : d2.data.toList.length = d2.size := Array.length_toList
    unfold maxLen at hd2; omega
  have := slatest_any a n d.data.toList a2 n2 d2.data.toList put spoil w (by omega) (by omega) l1 l2
  rwa [e, e2] at this
end Go.Proofs.YtbggjkokfbcbcabDoor
