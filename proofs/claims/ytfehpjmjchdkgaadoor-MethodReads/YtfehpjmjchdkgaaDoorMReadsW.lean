/- The walk of MethodReads. -/
import Derived.Test.YtfehpjmjchdkgaaDoorMResW
import Derived.Test.YtfehpjmjchdkgaaDoorMRefRead
namespace Go.Proofs.YtfehpjmjchdkgaaDoor
open Go.RowKit
set_option linter.unusedVariables false
set_option maxRecDepth 100000

/- Behind a world: of all that it had, the In at q alone may be otherwise, and is st. -/
theorem Mn.drewn {W : World} {q : Nat} {st : Codec.St} (h : InAt W q st) : Mn W q st W.drew := Mn.start h

set_option maxHeartbeats 12800000 in
theorem methodReads_walk (a0 : ByteArray) (w0 : a0.size ≤ maxLen) (w : World) (hw : MD w) :
    Calls Tryd.prog 5 #[.string a0] w fun e w' => e = .returned (.bool true) ∧ Below w.heap.size w w' := by
  have hp := hw.pos
  have HP := hide hp
  have HCU := hide (fun (wy : World) => cut_any a0 100 wy w0)
  have e100 : ((100 : Nat) : Int) = 100 := rfl
  rw [e100] at HCU
  obtain ⟨l, hl⟩ : ∃ l, a0.data.toList.take 100 = l := ⟨_, rfl⟩
  have hll : l.length ≤ 100 := by rw [← hl]; simp; omega
  rw [hl] at HCU
  have HAW := hide (fun (w1 : World) (hb : Below w.heap.size w w1) => mawake_any (hw.later hb))
  have HMD := hide (fun (w1 : World) (hb : Below w.heap.size w w1) => hw.later hb)
  have HRD := hide (fun (w1 : World) => read_any l w1 (by omega))
  have hiv : Inv ((l, 0) : Codec.St) := fun h => absurd rfl h
  have HRC := hide (fun (w1 : World) (q : Nat) (h1 : MD w1) (h2 : InAt w1 q (l, 0)) (h3 : q ≠ 0) (h4 : q < w1.heap.size) => mread_any h1 h2 h3 h4)
  have HRR := hide (fun (w1 : World) (q : Nat) (h1 : MD w1) (h2 : InAt w1 q (l, 0)) (h3 : q ≠ 0) (h4 : q < w1.heap.size) => mrread_any h1 h2 h3 h4)
  have HXC := hide (fun (w1 : World) => rread12_any (w := w1) (s := (l, 0)) hiv (by show l.length ≤ _; omega))
  have HXR := hide (fun (w1 : World) => rreadr12_any (w := w1) (s := (l, 0)) hiv (by show l.length ≤ _; omega))
  unfold InV at HXC HXR
  dsimp only at HXC HXR
  generalize rcC (l, 0) = C at *
  generalize rrR (l, 0) = D at *
  generalize rcS (l, 0) = sc at *
  generalize rrS (l, 0) = sr at *
  obtain ⟨co, ca, cb, cn⟩ := C
  obtain ⟨dk, dt, dn⟩ := D
  have HTO := hide (fun (w1 : World) => mtold_any (w := w1) ⟨co, ca, cb, cn⟩)
  unfold mcV at HRC HXC HTO
  unfold mrV at HRR HXR
  dsimp only at HRC HXC HRR HXR HTO
  have HER := hide (fun (w1 : World) (q : Nat) (s : Codec.St) (h : InAt w1 q s) => err_any q s w1 h)
  have HLE := hide (fun (w1 : World) (q : Nat) (s : Codec.St) (h : InAt w1 q s) => len_any q s w1 h)
  clear hl e100 w0 hw hp hiv hll
  go_enter Tryd.func5, Tryd.ntmps5
  go_wp2_with fail
  refine (unhide HCU _).mono ?_
  rintro e wc ⟨rfl, hww⟩
  have hww2 := hww.symm
  subst hww2
  clear hww
  go_wp2_with fail
  refine (unhide HAW _ (Below.refl _ _)).mono ?_
  rintro e wa ⟨rfl, hba⟩
  have HBA := hide hba
  clear hba HCU HAW
  go_wp2_with fail
  refine (unhide HRD _).mono ?_
  rintro e w1 ⟨rfl, hi1, hb1, hz1⟩
  obtain ⟨q, hq⟩ : ∃ q, wa.heap.size = q := ⟨_, rfl⟩
  have hqp : q ≠ 0 ∧ q < w1.heap.size := ⟨by have h1 := (unhide HBA).size; have h2 := unhide HP; omega, by omega⟩
  rw [hq] at hi1
  have HB1 := hide ((unhide HBA).trans (hb1.mono (unhide HBA).size))
  have HC1 := hide (unhide HRC w1 q (unhide HMD _ (unhide HB1)) hi1 hqp.1 hqp.2)
  have HWQ : Hid (w.heap.size ≤ q) := by have h1 := (unhide HBA).size; show _ ≤ _; omega
  rw [hq]
  clear hi1 hb1 hz1 hq hqp HRC HBA
  go_wp2_with fail
  refine (unhide HC1).mono ?_
  rintro e w2 ⟨rfl, hi2, hb2⟩
  have HB2 := hide ((unhide HB1).trans (hb2.below (unhide HWQ) (unhide HB1).size))
  have HI2 := hide hi2
  clear hi2 hb2 HC1 HB1
  obtain ⟨X, hX⟩ : ∃ X : Obj, X = .cells #[.int .i64 co, .string (S ca), .string (S cb), .int .i64 cn] 24 (0, 0) := ⟨_, rfl⟩
  have HX := hide hX
  clear hX
  go_wp2_with fail
  rw [← unhide HX]
  refine (unhide HXC _).mono ?_
  rintro e w3 ⟨rfl, hb3⟩
  obtain ⟨W, hW⟩ : ∃ W, (w3.alloc (.cells #[.string (S sc.1), .int .i64 sc.2] 53)).alloc (.cells #[.int .i64 co, .string (S ca), .string (S cb), .int .i64 cn] 28) = W := ⟨_, rfl⟩
  have hb3W : Below w3.heap.size w3 W := by rw [← hW]; exact under_two w3 _ _
  have hx2 : (w2.alloc X).heap[w2.heap.size]? = some X := heap_alloc_new w2 X
  have hs3 : w2.heap.size + 1 ≤ w3.heap.size := by have := hb3.size; rwa [World.size_alloc] at this
  have hb2W : Below w2.heap.size w2 W := ((under_box X).trans (hb3.mono (by simp))).trans (hb3W.mono (by omega))
  have hiW : InAt W q sc := (unhide HI2).later hb2W
  have hxW : W.heap[w2.heap.size]? = some X := (hb3W.block _ (by omega)).trans ((hb3.block _ (by simp)).trans hx2)
  rw [unhide HX] at hxW
  have hiX : W.heap[w3.heap.size]? = some (.cells #[.string (S sc.1), .int .i64 sc.2] 53 (0, 0)) := by rw [← hW, Below.heap_alloc _ _ _ (by simp)]; exact heap_alloc_new w3 _
  have hcX : W.heap[w3.heap.size + 1]? = some (.cells #[.int .i64 co, .string (S ca), .string (S cb), .int .i64 cn] 28 (0, 0)) := by
    have := heap_alloc_new (w3.alloc (.cells #[.string (S sc.1), .int .i64 sc.2] 53)) (.cells #[.int .i64 co, .string (S ca), .string (S cb), .int .i64 cn] 28)
    rw [World.size_alloc, hW] at this
    exact this
  have p0 : ∀ w1, Bm W w1 → w1.cell? ⟨w2.heap.size, 0, none⟩ = some (.int .i64 co) := fun w1 h => (h.cells4 hxW).1
  have p1 : ∀ w1, Bm W w1 → w1.cell? ⟨w2.heap.size, 1, none⟩ = some (.string (S ca)) := fun w1 h => (h.cells4 hxW).2.1
  have p2 : ∀ w1, Bm W w1 → w1.cell? ⟨w2.heap.size, 2, none⟩ = some (.string (S cb)) := fun w1 h => (h.cells4 hxW).2.2.1
  have p3 : ∀ w1, Bm W w1 → w1.cell? ⟨w2.heap.size, 3, none⟩ = some (.int .i64 cn) := fun w1 h => (h.cells4 hxW).2.2.2
  have r0 : ∀ w1, Bm W w1 → w1.cell? ⟨w3.heap.size + 1, 0, none⟩ = some (.int .i64 co) := fun w1 h => (h.cells4 hcX).1
  have r1 : ∀ w1, Bm W w1 → w1.cell? ⟨w3.heap.size + 1, 1, none⟩ = some (.string (S ca)) := fun w1 h => (h.cells4 hcX).2.1
  have r2 : ∀ w1, Bm W w1 → w1.cell? ⟨w3.heap.size + 1, 2, none⟩ = some (.string (S cb)) := fun w1 h => (h.cells4 hcX).2.2.1
  have r3 : ∀ w1, Bm W w1 → w1.cell? ⟨w3.heap.size + 1, 3, none⟩ = some (.int .i64 cn) := fun w1 h => (h.cells4 hcX).2.2.2
  have q0 : ∀ w1, Bm W w1 → w1.cell? ⟨w3.heap.size, 0, none⟩ = some (.string (S sc.1)) := fun w1 h => (h.cells2 hiX).1
  have q1 : ∀ w1, Bm W w1 → w1.cell? ⟨w3.heap.size, 1, none⟩ = some (.int .i64 sc.2) := fun w1 h => (h.cells2 hiX).2
  have hst : Bm W W.drew := (Below.refl _ _).drew
  have hlW : Below w.heap.size w W := (unhide HB2).trans (hb2W.mono (unhide HB2).size)
  have HLOW : Hid (∀ w1, Bm W w1 → Below w.heap.size w w1) := fun w1 h => hlW.trans (h.low.mono hlW.size)
  have HEE : Hid (∀ w1, Bm W w1 → Calls Tryd.prog 25 #[.pointer (some ⟨q, 0, none⟩)] w1 fun e w' => e = .returned (.int .i64 sc.2) ∧ w' = w1) := fun w1 h => unhide HER w1 q sc (hiW.later h.low)
  have HLL : Hid (∀ w1, Bm W w1 → Calls Tryd.prog 26 #[.pointer (some ⟨q, 0, none⟩)] w1 fun e w' => e = .returned (.int .i64 (sc.1.length : Nat)) ∧ w' = w1) := fun w1 h => unhide HLE w1 q sc (hiW.later h.low)
  have hn1 : (sc.2 != sc.2) = false := by simp
  have hn2 : (((sc.1.length : Nat) : Int) != ((sc.1.length : Nat) : Int)) = false := by simp
  have hz : (S sc.1).size = sc.1.length := S_size _
  have HW := hide hW
  clear hW hb3W hx2 hs3 hb2W hiW hxW hiX hcX hlW hb3 HB2 HI2 HX HXC HWQ
  go_wp2_with fail
  rw [unhide HW]
  clear HW
  go_region_held3 (fun w' => Bm W w') (with_reducible (first | exact hst | (refine Bm.below ?_ (by assumption) <;> assumption) | assumption))
    (first
      | (go_at_call 25; refine (unhide HEE _ (by assumption)).mono ?_; rintro e wx ⟨rfl, hwx⟩; subst hwx)
      | (go_at_call 26; refine (unhide HLL _ (by assumption)).mono ?_; rintro e wy ⟨rfl, hwy⟩; subst hwy)
      | (go_at_call 12; refine (unhide HTO _).mono ?_; rintro e wz ⟨rfl, hbz⟩)
      | fail)
  all_goals
    have HBZ := hide (unhide HLOW _ (show Bm W wz by assumption))
    clear hst p0 p1 p2 p3 q0 q1 r0 r1 r2 r3 HLOW HEE HLL HTO hn1 hn2 hz
    clear hbz
    go_wp2_with fail
    refine (unhide HRD _).mono ?_
    rintro e v1 ⟨rfl, hi1, hb1, hz1⟩
    obtain ⟨q', hq⟩ : ∃ q, wz.heap.size = q := ⟨_, rfl⟩
    have hqp : q' ≠ 0 ∧ q' < v1.heap.size := ⟨by have h1 := (unhide HBZ).size; have h2 := unhide HP; omega, by omega⟩
    rw [hq] at hi1
    have HB1 := hide ((unhide HBZ).trans (hb1.mono (unhide HBZ).size))
    have HC1 := hide (unhide HRR v1 q' (unhide HMD _ (unhide HB1)) hi1 hqp.1 hqp.2)
    have HWQ : Hid (w.heap.size ≤ q') := by have h1 := (unhide HBZ).size; show _ ≤ _; omega
    rw [hq]
    clear hi1 hb1 hz1 hq hqp HRR HBZ HRD
    go_wp2_with fail
    refine (unhide HC1).mono ?_
    rintro e v2 ⟨rfl, hi2, hb2⟩
    have HB2 := hide ((unhide HB1).trans (hb2.below (unhide HWQ) (unhide HB1).size))
    have HI2 := hide hi2
    clear hi2 hb2 HC1 HB1
    obtain ⟨Z, hZ⟩ : ∃ X : Obj, X = .cells #[.int .i64 dk, .string (S dt), .int .i64 dn] 46 (0, 0) := ⟨_, rfl⟩
    have HZ := hide hZ
    clear hZ
    go_wp2_with fail
    rw [← unhide HZ]
    refine (unhide HXR _).mono ?_
    rintro e v3 ⟨rfl, hb3⟩
    obtain ⟨V, hV⟩ : ∃ V, (v3.alloc (.cells #[.string (S sr.1), .int .i64 sr.2] 53)).alloc (.cells #[.int .i64 dk, .string (S dt), .int .i64 dn] 48) = V := ⟨_, rfl⟩
    have hb3W : Below v3.heap.size v3 V := by rw [← hV]; exact under_two v3 _ _
    have hx2 : (v2.alloc Z).heap[v2.heap.size]? = some Z := heap_alloc_new v2 Z
    have hs3 : v2.heap.size + 1 ≤ v3.heap.size := by have := hb3.size; rwa [World.size_alloc] at this
    have hb2W : Below v2.heap.size v2 V := ((under_box Z).trans (hb3.mono (by simp))).trans (hb3W.mono (by omega))
    have hiW : InAt V q' sr := (unhide HI2).later hb2W
    have hxW : V.heap[v2.heap.size]? = some Z := (hb3W.block _ (by omega)).trans ((hb3.block _ (by simp)).trans hx2)
    rw [unhide HZ] at hxW
    have hiX : V.heap[v3.heap.size]? = some (.cells #[.string (S sr.1), .int .i64 sr.2] 53 (0, 0)) := by rw [← hV, Below.heap_alloc _ _ _ (by simp)]; exact heap_alloc_new v3 _
    have hcX : V.heap[v3.heap.size + 1]? = some (.cells #[.int .i64 dk, .string (S dt), .int .i64 dn] 48 (0, 0)) := by
      have := heap_alloc_new (v3.alloc (.cells #[.string (S sr.1), .int .i64 sr.2] 53)) (.cells #[.int .i64 dk, .string (S dt), .int .i64 dn] 48)
      rw [World.size_alloc, hV] at this
      exact this
    have p0 : ∀ w1, Bm V w1 → w1.cell? ⟨v2.heap.size, 0, none⟩ = some (.int .i64 dk) := fun w1 h => (h.cells3 hxW).1
    have p1 : ∀ w1, Bm V w1 → w1.cell? ⟨v2.heap.size, 1, none⟩ = some (.string (S dt)) := fun w1 h => (h.cells3 hxW).2.1
    have p2 : ∀ w1, Bm V w1 → w1.cell? ⟨v2.heap.size, 2, none⟩ = some (.int .i64 dn) := fun w1 h => (h.cells3 hxW).2.2
    have r0 : ∀ w1, Bm V w1 → w1.cell? ⟨v3.heap.size + 1, 0, none⟩ = some (.int .i64 dk) := fun w1 h => (h.cells3 hcX).1
    have r1 : ∀ w1, Bm V w1 → w1.cell? ⟨v3.heap.size + 1, 1, none⟩ = some (.string (S dt)) := fun w1 h => (h.cells3 hcX).2.1
    have r2 : ∀ w1, Bm V w1 → w1.cell? ⟨v3.heap.size + 1, 2, none⟩ = some (.int .i64 dn) := fun w1 h => (h.cells3 hcX).2.2
    have q0 : ∀ w1, Bm V w1 → w1.cell? ⟨v3.heap.size, 0, none⟩ = some (.string (S sr.1)) := fun w1 h => (h.cells2 hiX).1
    have q1 : ∀ w1, Bm V w1 → w1.cell? ⟨v3.heap.size, 1, none⟩ = some (.int .i64 sr.2) := fun w1 h => (h.cells2 hiX).2
    have hst : Bm V V.drew := (Below.refl _ _).drew
    have hlW : Below w.heap.size w V := (unhide HB2).trans (hb2W.mono (unhide HB2).size)
    have HLOW : Hid (∀ w1, Bm V w1 → Below w.heap.size w w1) := fun w1 h => hlW.trans (h.low.mono hlW.size)
    have HEE : Hid (∀ w1, Bm V w1 → Calls Tryd.prog 25 #[.pointer (some ⟨q', 0, none⟩)] w1 fun e w' => e = .returned (.int .i64 sr.2) ∧ w' = w1) := fun w1 h => unhide HER w1 q' sr (hiW.later h.low)
    have HLL : Hid (∀ w1, Bm V w1 → Calls Tryd.prog 26 #[.pointer (some ⟨q', 0, none⟩)] w1 fun e w' => e = .returned (.int .i64 (sr.1.length : Nat)) ∧ w' = w1) := fun w1 h => unhide HLE w1 q' sr (hiW.later h.low)
    have hn1 : (sr.2 == sr.2) = true := by simp
    have hn2 : (((sr.1.length : Nat) : Int) == ((sr.1.length : Nat) : Int)) = true := by simp
    have hz : (S sr.1).size = sr.1.length := S_size _
    have HW := hide hV
    clear hV hb3W hx2 hs3 hb2W hiW hxW hiX hcX hlW hb3 HB2 HI2 HZ HXR HWQ HER HLE HMD HP
    go_wp2_with fail
    rw [unhide HW]
    clear HW
    go_region_held3 (fun w' => Bm V w') (with_reducible (first | exact hst | (refine Bm.below ?_ (by assumption) <;> assumption) | assumption))
      (first
        | (go_at_call 25; refine (unhide HEE _ (by assumption)).mono ?_; rintro e wx ⟨rfl, hwx⟩; subst hwx)
        | (go_at_call 26; refine (unhide HLL _ (by assumption)).mono ?_; rintro e wy ⟨rfl, hwy⟩; subst hwy)
        | fail)
    all_goals
      have HFIN := hide (unhide HLOW _ (by assumption))
      go_wp2_with fail
      go_ret
      exact ⟨rfl, unhide HFIN⟩
end Go.Proofs.YtfehpjmjchdkgaaDoor
