/- The contract of the reference's Text. -/
import Derived.Test.YtajcaglbbdbibaaGreatDoorBundleS3
namespace Go.Proofs.YtajcaglbbdbibaaGreatDoor
open Go.RowKit
set_option linter.unusedVariables false
set_option maxRecDepth 100000

theorem S_snoc (l : List UInt8) (c : UInt8) : S l ++ ⟨#[c]⟩ = S (l ++ [c]) := by
  apply ByteArray.ext
  apply Array.ext'
  simp [S]

set_option maxHeartbeats 3200000 in
theorem rtext_any (s : Codec.Sec) (w : World) (h : s.Ok) (h44 : s.data.length ≤ 44) :
    Calls Tryz.prog 53 #[RV s] w fun e w' => e = .returned (.string (S (Codec.secText s))) ∧ Below w.heap.size w w' := by
  obtain ⟨st, mk, d⟩ := s
  have h1 := h.st
  have h2 := h.mrk
  have hbl := Codec.body_length44 _ h h44
  dsimp only at h1 h2 h44
  obtain ⟨W, hW⟩ : ∃ W, w.alloc (.cells #[.int .i64 (st : Int), .int .i64 (mk : Int), .string (S d)] 81) = W := ⟨_, rfl⟩
  have hbW : Below w.heap.size w W := by rw [← hW]; exact (Below.refl _ _).alloc (Nat.le_refl _) _
  have hq0 : W.heap[w.heap.size]? = some (.cells #[.int .i64 (st : Int), .int .i64 (mk : Int), .string (S d)] 81 (0, 0)) := by
    rw [← hW]; exact heap_alloc_new w _
  have hsz : W.heap.size = w.heap.size + 1 := by rw [← hW]; simp
  have d0 : W.cell? ⟨w.heap.size, 0, none⟩ = some (.int .i64 (st : Int)) := by rw [World.cell?, hq0]; rfl
  have d1 : W.cell? ⟨w.heap.size, 1, none⟩ = some (.int .i64 (mk : Int)) := by rw [World.cell?, hq0]; rfl
  have d2 : W.cell? ⟨w.heap.size, 2, none⟩ = some (.string (S d)) := by rw [World.cell?, hq0]; rfl
  have HN : Hid (∀ (k : Nat) (wy : World), k ≤ 1099511627776 → Calls Tryz.prog 74 #[.int .i64 (k : Int)] wy fun e w' => e = .returned (.string (S (Codec.enc k))) ∧ Below wy.heap.size wy w') := fun k wy hk => by
    have := refN_any (k : Int) wy (by omega) (by omega)
    rw [show (max (k : Int) 0).toNat = k by omega] at this
    exact this
  have HS := hide (fun wy => refS_any d wy (by omega))
  have e1 := Codec.enc_short st (by omega)
  have e2 := Codec.enc_short mk (by omega)
  have hz1 : (S (Codec.enc st)).size = (Codec.enc st).length := rfl
  have hz2 : (S (Codec.enc mk)).size = (Codec.enc mk).length := rfl
  have hz3 : (S (Codec.encS d)).size = (Codec.encS d).length := rfl
  have hz4 : (S (Codec.enc st ++ Codec.enc mk)).size = (Codec.enc st).length + (Codec.enc mk).length := by rw [S_size, List.length_append]
  have e3 : (Codec.encS d).length ≤ 53 := by
    have := Codec.enc_short d.length (by omega)
    unfold Codec.encS
    rw [List.length_append]; omega
  have hap1 := S_append (Codec.enc st) (Codec.enc mk)
  have hap2 := S_append (Codec.enc st ++ Codec.enc mk) (Codec.encS d)
  have hbd : Codec.enc st ++ Codec.enc mk ++ Codec.encS d = Codec.body ⟨st, mk, d⟩ := rfl
  rw [hbd] at hap2
  have HST : Hid (Codec.secText ⟨st, mk, d⟩ = Codec.sumOf (Codec.pad60 (Codec.body ⟨st, mk, d⟩)) ++ Codec.pad60 (Codec.body ⟨st, mk, d⟩)) := rfl
  obtain ⟨T, hT⟩ : ∃ T, Codec.secText ⟨st, mk, d⟩ = T := ⟨_, rfl⟩
  rw [hT] at HST
  rw [hT]
  generalize Codec.body ⟨st, mk, d⟩ = bd at *
  generalize hl1 : Codec.enc st ++ Codec.enc mk = l1 at *
  have hno1 : ¬9223372036854775807 < (Codec.enc st).length + (Codec.enc mk).length := by omega
  have hno2 : ¬9223372036854775807 < (Codec.enc st).length + (Codec.enc mk).length + (Codec.encS d).length := by omega
  have HW := hide hW
  have hltW : w.heap.size < W.heap.size := by omega
  have hcur : Below W.heap.size W W.drew := (Below.refl _ _).drew
  have HBW := hide hbW
  have HSZ := hide hsz
  clear hW hbW hq0 hsz hbd hT h hl1
  generalize Codec.encS d = q3 at *
  have HE1 := hide e1
  have HE2 := hide e2
  have HE3 := hide e3
  clear e1 e2 e3
  unfold RV
  go_enter Tryz.func53, Tryz.ntmps53
  go_wp2_with fail
  rw [unhide HW]
  clear HW
  go_region_held3 (fun w' => w'.cell? ⟨w.heap.size, 0, none⟩ = some (.int .i64 (st : Int)) ∧ w'.cell? ⟨w.heap.size, 1, none⟩ = some (.int .i64 (mk : Int)) ∧ w'.cell? ⟨w.heap.size, 2, none⟩ = some (.string (S d))) (go_keep)
    (first
      | (go_at_call 74; refine (unhide HN _ _ (by omega)).mono ?_; rintro e w2 ⟨rfl, hb2⟩; replace hcur := hcur.trans (hb2.mono hcur.size); have f0 := (hcur.cell (p := ⟨w.heap.size, 0, none⟩) hltW).trans d0; have f1 := (hcur.cell (p := ⟨w.heap.size, 1, none⟩) hltW).trans d1; have f2 := (hcur.cell (p := ⟨w.heap.size, 2, none⟩) hltW).trans d2; clear hb2)
      | (go_at_call 75; refine (unhide HS _).mono ?_; rintro e w2 ⟨rfl, hb2⟩; replace hcur := hcur.trans (hb2.mono hcur.size); have f0 := (hcur.cell (p := ⟨w.heap.size, 0, none⟩) hltW).trans d0; have f1 := (hcur.cell (p := ⟨w.heap.size, 1, none⟩) hltW).trans d1; have f2 := (hcur.cell (p := ⟨w.heap.size, 2, none⟩) hltW).trans d2; clear hb2)
      | fail)
  have HB2 := hide ((unhide HBW).trans (hcur.mono (by omega)))
  clear f0 f1 f2 hcur d0 d1 d2 HN HS hap1 hap2 hz1 hz2 hz3 hz4 hno1 hno2 HE1 HE2 HE3
  go_wp2_with fail
  go_loopw [3, 4] (fun t i wr => ∃ k : Nat, bd.length + k ≤ 60 ∧ t = .string (S (bd ++ List.replicate k 0)) ∧ i = .int .i64 k ∧ wr = w2) (fun _ i _ => 60 - (intOf i).toNat)
  case atStart =>
    exact ⟨0, by omega, by simp, rfl, rfl⟩
  case round =>
    obtain ⟨k, hk, rfl, rfl, rfl⟩ := hrel
    obtain ⟨z, hz⟩ : ∃ z, bd ++ List.replicate k 0 = z := ⟨_, rfl⟩
    obtain ⟨m, hm⟩ : ∃ m, bd.length = m := ⟨_, rfl⟩
    have hsz : (S z).size = m + k := by rw [← hz, S_size, List.length_append, List.length_replicate, hm]
    have HZ := hide hz
    have HM := hide hm
    rw [hz]
    rw [hm] at hk hbl
    clear hz hm
    by_cases hlt : m + k < 60
    · have hk64 : (k : Int) < 60 := by omega
      have hno : ¬9223372036854775807 < m + k + 1 := by omega
      go_wp2_with fail
      refine ⟨⟨k + 1, by have := unhide HM; omega, ?_, by go_num, trivial⟩, by simp [intOf]; omega⟩
      rw [S_snoc, ← unhide HZ, List.append_assoc, ← List.replicate_succ']
    · have hge : m + k = 60 := by omega
      have hpad : z = Codec.pad60 bd := by
        unfold Codec.pad60
        rw [← unhide HZ, unhide HM]
        congr 2
        omega
      subst hpad
      have HOF := hide (fun wy => refSum_any (Codec.pad60 bd) wy (by have := hsz; rw [S_size] at this; omega))
      have HFO := hide (fun wy => refFour_any (Codec.pad60 bd) wy)
      have hfs : (S (Codec.sumOf (Codec.pad60 bd))).size = 4 := rfl
      have hap := S_append (Codec.sumOf (Codec.pad60 bd)) (Codec.pad60 bd)
      rw [← unhide HST] at hap
      have hk2 : (k : Int) < 60 ∨ (60 : Int) ≤ (k : Int) := by omega
      have hs60 : (S (Codec.pad60 bd)).size = 60 := by omega
      clear hsz hge hlt hk hbl HZ HM
      generalize Codec.sumOf (Codec.pad60 bd) = q4 at *
      generalize Crc.crc (Codec.pad60 bd) = qn at *
      generalize Codec.pad60 bd = q60 at *
      rcases hk2 with hk2 | hk2
      all_goals
        go_wp2_with fail
        refine (unhide HOF _).mono ?_
        rintro e w7 ⟨rfl, rfl⟩
        go_wp2_with fail
        refine (unhide HFO _).mono ?_
        rintro e w8 ⟨rfl, hb8⟩
        have HB8 := hide ((unhide HB2).trans (hb8.mono (unhide HB2).size))
        clear hb8
        go_wp2_with fail
        go_ret
        exact ⟨rfl, unhide HB8⟩
end Go.Proofs.YtajcaglbbdbibaaGreatDoor
