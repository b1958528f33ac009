/- StampTexts's walk. -/
import Derived.Test.YtbggjkokfbcbcaaDoorSAwake
import Derived.Test.YtbggjkokfbcbcaaDoorSRefText
namespace Go.Proofs.YtbggjkokfbcbcaaDoor
open Go.RowKit
set_option linter.unusedVariables false
set_option maxRecDepth 100000

set_option maxHeartbeats 6400000 in
theorem stexts_any (a : Int) (mk : Nat) (d : List UInt8) (w : World) (hmk : mk ≤ 255) (hd : d.length ≤ 9223372036854775807) :
    Calls Tryd.prog 3 #[.agg #[.int .i64 a, .int .u8 (mk : Int), .string (S d)]] w fun e w' => e = .returned (.bool true) ∧ Below w.heap.size w w' := by
  have HCUT := hide (fun wy => cut_any (S d) 50 wy (by unfold maxLen; show d.length ≤ _; omega))
  rw [S_toList] at HCUT
  have h50 : (d.take 50).length ≤ 50 := by simp; omega
  generalize d.take 50 = t at *
  have HAW := hide (fun wy => sawake_any wy)
  have HC := hide (fun wy => check_any a (mk : Int) t wy)
  have HTO := hide (fun wy => told_any a mk t wy (by omega))
  have HRC := hide (fun wy => refCheck_any a (mk : Int) t wy)
  obtain ⟨c, hc⟩ : ∃ c, chk a t = c := ⟨_, rfl⟩
  rw [hc] at HC HRC
  obtain ⟨W, hW⟩ : ∃ W, w.alloc (.cells #[.int .i64 a, .int .u8 (mk : Int), .string (S t)] 23) = W := ⟨_, rfl⟩
  have hbW : Below w.heap.size w W := by rw [← hW]; exact (Below.refl _ _).alloc (Nat.le_refl _) _
  have hq0 : W.heap[w.heap.size]? = some (.cells #[.int .i64 a, .int .u8 (mk : Int), .string (S t)] 23 (0, 0)) := by
    rw [← hW]; exact heap_alloc_new w _
  have hsz : W.heap.size = w.heap.size + 1 := by rw [← hW]; simp
  have d0 : W.cell? ⟨w.heap.size, 0, none⟩ = some (.int .i64 a) := by rw [World.cell?, hq0]; rfl
  have d1 : W.cell? ⟨w.heap.size, 1, none⟩ = some (.int .u8 (mk : Int)) := by rw [World.cell?, hq0]; rfl
  have d2 : W.cell? ⟨w.heap.size, 2, none⟩ = some (.string (S t)) := by rw [World.cell?, hq0]; rfl
  have hltW : w.heap.size < W.heap.size := by omega
  have hcur : Below W.heap.size W W.drew := (Below.refl _ _).drew
  have HW := hide hW
  have HBW := hide hbW
  clear hW hbW hq0
  go_enter Tryd.func3, Tryd.ntmps3
  go_wp2_with fail
  refine (unhide HCUT _).mono ?_
  rintro e w1 ⟨rfl, rfl⟩
  clear HCUT
  go_wp2_with fail
  rw [unhide HW]
  go_region_held3 (fun w' => w'.cell? ⟨w.heap.size, 0, none⟩ = some (.int .i64 a) ∧ w'.cell? ⟨w.heap.size, 1, none⟩ = some (.int .u8 (mk : Int)) ∧ w'.cell? ⟨w.heap.size, 2, none⟩ = some (.string (S t))) (go_keep)
    (first
      | (go_at_call 6; refine (unhide HAW _).mono ?_; rintro e w2 ⟨rfl, hb2⟩; replace hcur := hcur.trans (hb2.mono hcur.size); have f0 := (hcur.cell (p := ⟨w.heap.size, 0, none⟩) hltW).trans d0; have f1 := (hcur.cell (p := ⟨w.heap.size, 1, none⟩) hltW).trans d1; have f2 := (hcur.cell (p := ⟨w.heap.size, 2, none⟩) hltW).trans d2; clear hb2)
      | (go_at_call 7; refine (unhide HC _).mono ?_; rintro e w2 ⟨rfl, hb2⟩; replace hcur := hcur.trans (hb2.mono hcur.size); have f0 := (hcur.cell (p := ⟨w.heap.size, 0, none⟩) hltW).trans d0; have f1 := (hcur.cell (p := ⟨w.heap.size, 1, none⟩) hltW).trans d1; have f2 := (hcur.cell (p := ⟨w.heap.size, 2, none⟩) hltW).trans d2; clear hb2)
      | (go_at_call 9; refine (unhide HTO _).mono ?_; rintro e w2 ⟨rfl, hb2⟩; replace hcur := hcur.trans (hb2.mono hcur.size); have f0 := (hcur.cell (p := ⟨w.heap.size, 0, none⟩) hltW).trans d0; have f1 := (hcur.cell (p := ⟨w.heap.size, 1, none⟩) hltW).trans d1; have f2 := (hcur.cell (p := ⟨w.heap.size, 2, none⟩) hltW).trans d2; clear hb2)
      | (go_at_call 8; refine (unhide HRC _).mono ?_; rintro e w2 ⟨rfl, hb2⟩; replace hcur := hcur.trans (hb2.mono hcur.size); have f0 := (hcur.cell (p := ⟨w.heap.size, 0, none⟩) hltW).trans d0; have f1 := (hcur.cell (p := ⟨w.heap.size, 1, none⟩) hltW).trans d1; have f2 := (hcur.cell (p := ⟨w.heap.size, 2, none⟩) hltW).trans d2; clear hb2)
      | fail)
  clear HAW HTO HRC f0 f1 f2
  have f0 := (hcur.cell (p := ⟨w.heap.size, 0, none⟩) hltW).trans d0
  have f1 := (hcur.cell (p := ⟨w.heap.size, 1, none⟩) hltW).trans d1
  have f2 := (hcur.cell (p := ⟨w.heap.size, 2, none⟩) hltW).trans d2
  go_wp2_with fail
  refine (unhide HC _).mono ?_
  rintro e w3 ⟨rfl, hb3⟩
  replace hcur := hcur.trans (hb3.mono hcur.size)
  clear hb3 f0 f1 f2
  by_cases hc0 : c = 0
  · subst hc0
    have f0 := (hcur.cell (p := ⟨w.heap.size, 0, none⟩) hltW).trans d0
    have f1 := (hcur.cell (p := ⟨w.heap.size, 1, none⟩) hltW).trans d1
    have f2 := (hcur.cell (p := ⟨w.heap.size, 2, none⟩) hltW).trans d2
    obtain ⟨n, hn⟩ : ∃ n : Nat, a = (n : Int) := ⟨a.toNat, by unfold chk at hc; split at hc <;> omega⟩
    subst hn
    obtain ⟨hn1, hn2, h44⟩ : 1 ≤ n ∧ n ≤ 1099511627776 ∧ t.length ≤ 44 := by
      unfold chk at hc; split at hc
      · omega
      · split at hc <;> omega
    have hok : (⟨n, mk, t⟩ : Codec.Sec).Ok := ⟨hn2, hmk, by show t.length ≤ 50; omega⟩
    have HT := hide (fun wy => stext_any ⟨n, mk, t⟩ wy hok h44)
    have HR := hide (fun wy => rtext_any ⟨n, mk, t⟩ wy hok h44)
    have HTO := hide (fun wy => told_any (n : Int) mk t wy (by omega))
    have hlen := Codec.secText_length ⟨n, mk, t⟩ hok h44
    have HP := hide (fun wy => sparse_any (Codec.secText ⟨n, mk, t⟩) wy (by omega))
    rw [Codec.parse_text _ hok h44 hn1] at HP
    have hls : (S (Codec.secText ⟨n, mk, t⟩)).size = 64 := hlen
    generalize Codec.secText ⟨n, mk, t⟩ = T at *
    unfold SV at HT HP
    unfold RV at HR
    dsimp only at HT HP HR
    clear hlen hok hc HC h50
    go_wp2_with fail
    refine (unhide HT _).mono ?_
    rintro e w4 ⟨rfl, hb4⟩
    replace hcur := hcur.trans (hb4.mono hcur.size)
    clear hb4 f0 f1 f2
    go_wp2_with fail
    refine (unhide HP _).mono ?_
    rintro e w5 ⟨rfl, hb5⟩
    replace hcur := hcur.trans (hb5.mono hcur.size)
    clear hb5 HP
    go_wp2_with fail
    have HB := hide ((unhide HBW).trans (hcur.mono (by omega)))
    obtain ⟨W2, hW2⟩ : ∃ W2, w5.alloc (.cells #[.int .i64 (n : Int), .int .u8 (mk : Int), .string (S t)] 23) = W2 := ⟨_, rfl⟩
    have hs2 : W2.heap.size = w5.heap.size + 1 := by rw [← hW2]; simp
    have hq2 : W2.heap[w5.heap.size]? = some (.cells #[.int .i64 (n : Int), .int .u8 (mk : Int), .string (S t)] 23 (0, 0)) := by rw [← hW2]; exact heap_alloc_new w5 _
    have hcA : Below W.heap.size W W2 := by rw [← hW2]; exact hcur.alloc hcur.size _
    have HB2 := hide ((unhide HBW).trans (hcA.mono (by omega)))
    have hle := hcA.size
    have CELLS := hide (fun w' (hx : Below W2.heap.size W2 w') => (show w'.cell? ⟨w.heap.size, 0, none⟩ = some (.int .i64 (n : Int)) ∧ w'.cell? ⟨w.heap.size, 1, none⟩ = some (.int .u8 (mk : Int)) ∧ w'.cell? ⟨w.heap.size, 2, none⟩ = some (.string (S t)) ∧ w'.cell? ⟨w5.heap.size, 0, none⟩ = some (.int .i64 (n : Int)) ∧ w'.cell? ⟨w5.heap.size, 1, none⟩ = some (.int .u8 (mk : Int)) ∧ w'.cell? ⟨w5.heap.size, 2, none⟩ = some (.string (S t)) from
      ⟨((hx.cell (p := ⟨w.heap.size, 0, none⟩) (by show w.heap.size < _; omega)).trans (hcA.cell (p := ⟨w.heap.size, 0, none⟩) hltW)).trans d0,
       ((hx.cell (p := ⟨w.heap.size, 1, none⟩) (by show w.heap.size < _; omega)).trans (hcA.cell (p := ⟨w.heap.size, 1, none⟩) hltW)).trans d1,
       ((hx.cell (p := ⟨w.heap.size, 2, none⟩) (by show w.heap.size < _; omega)).trans (hcA.cell (p := ⟨w.heap.size, 2, none⟩) hltW)).trans d2,
       (hx.cell (p := ⟨w5.heap.size, 0, none⟩) (by show w5.heap.size < _; omega)).trans (bcell hq2 0),
       (hx.cell (p := ⟨w5.heap.size, 1, none⟩) (by show w5.heap.size < _; omega)).trans (bcell hq2 1),
       (hx.cell (p := ⟨w5.heap.size, 2, none⟩) (by show w5.heap.size < _; omega)).trans (bcell hq2 2)⟩))
    have hcur2 : Below W2.heap.size W2 W2.drew := (Below.refl _ _).drew
    rw [hW2]
    clear hcA hq2 hs2 hle hW2 hcur d0 d1 d2 f0 f1 f2 HW HBW HB hsz hltW
    obtain ⟨f0, f1, f2, f3, f4, f5⟩ := unhide CELLS _ hcur2
    go_region_held3 (fun w' => w'.cell? ⟨w.heap.size, 0, none⟩ = some (.int .i64 (n : Int)) ∧ w'.cell? ⟨w.heap.size, 1, none⟩ = some (.int .u8 (mk : Int)) ∧ w'.cell? ⟨w.heap.size, 2, none⟩ = some (.string (S t)) ∧ w'.cell? ⟨w5.heap.size, 0, none⟩ = some (.int .i64 (n : Int)) ∧ w'.cell? ⟨w5.heap.size, 1, none⟩ = some (.int .u8 (mk : Int)) ∧ w'.cell? ⟨w5.heap.size, 2, none⟩ = some (.string (S t))) (go_keep)
      (first
        | (go_at_call 11; refine (unhide HT _).mono ?_; rintro e w7 ⟨rfl, hb7⟩; replace hcur2 := hcur2.trans (hb7.mono hcur2.size); obtain ⟨f0, f1, f2, f3, f4, f5⟩ := unhide CELLS _ hcur2; clear hb7)
        | (go_at_call 9; refine (unhide HTO _).mono ?_; rintro e w7 ⟨rfl, hb7⟩; replace hcur2 := hcur2.trans (hb7.mono hcur2.size); obtain ⟨f0, f1, f2, f3, f4, f5⟩ := unhide CELLS _ hcur2; clear hb7)
        | (go_at_call 12; refine (unhide HR _).mono ?_; rintro e w7 ⟨rfl, hb7⟩; replace hcur2 := hcur2.trans (hb7.mono hcur2.size); obtain ⟨f0, f1, f2, f3, f4, f5⟩ := unhide CELLS _ hcur2; clear hb7)
        | fail)
    go_wp2_with fail
    go_ret
    exact ⟨rfl, (unhide HB2).trans (hcur2.mono (unhide HB2).size)⟩
  · go_wp2_with fail
    go_ret
    exact ⟨rfl, (unhide HBW).trans (hcur.mono (by omega))⟩

theorem stampTexts_walk (a : Int) (ha : (Lit.int .i64 a).wf = true) (mk : Int) (hm : (Lit.int .u8 mk).wf = true) (d : ByteArray) (hd : d.size ≤ maxLen) (w : World) :
    Calls Tryd.prog 3 #[.agg #[.int .i64 a, .int .u8 mk, .string d]] w fun e w' => e = .returned (.bool true) ∧ Below w.heap.size w w' := by
  obtain ⟨h0, h1⟩ : 0 ≤ mk ∧ mk ≤ 255 := by simpa [Lit.wf, IntKind.min, IntKind.max, IntKind.signed, IntKind.bits] using hm
  obtain ⟨n, rfl⟩ : ∃ n : Nat, mk = (n : Int) := ⟨mk.toNat, by omega⟩
  have e : S d.data.toList = d := by cases d; simp [S]
  have := stexts_any a n d.data.toList w (by omega) (by have : d.data.toList.length = d.size := Array.length_toList
                                                        unfold maxLen at hd; omega)
  rwa [e] at this
end Go.Proofs.YtbggjkokfbcbcaaDoor
