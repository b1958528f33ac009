/- The contract of stamp's Parse. -/
import Derived.Test.YtajcaglbbdbibaaDoorSText
namespace Go.Proofs.YtajcaglbbdbibaaDoor
open Go.RowKit
set_option linter.unusedVariables false
set_option maxRecDepth 100000

theorem bcell {w : World} {b : Nat} {cs : Array Value} {t : TypeId} {fz : Nat × Nat} (h : w.heap[b]? = some (.cells cs t fz)) (k : Nat) : w.cell? ⟨b, k, none⟩ = cs[k]? := by simp [World.cell?, h]
theorem bfroz {w : World} {b : Nat} {cs : Array Value} {t : TypeId} (h : w.heap[b]? = some (.cells cs t (0, 0))) (k : Nat) : w.frozen? ⟨b, k, none⟩ = false := by simp [World.frozen?, h]
theorem blt {w : World} {b : Nat} {o : Obj} (h : w.heap[b]? = some o) : b < w.heap.size := (Array.getElem?_eq_some_iff.1 h).1
theorem set3 {w : World} {n : Nat} {x y z : Value} {t : TypeId} (h : w.heap[n]? = some (.cells #[x, y, z] t (0, 0))) (a b c : Value) :
    (((w.setCell ⟨n, 0, none⟩ a).setCell ⟨n, 1, none⟩ b).setCell ⟨n, 2, none⟩ c).heap[n]? = some (.cells #[a, b, c] t (0, 0)) :=
  heap_setCell_same _ n 2 _ t c (heap_setCell_same _ n 1 _ t b (heap_setCell_same _ n 0 _ t a h))
theorem below3 {w wr : World} (h : Below w.heap.size w wr) (a b c : Value) : Below w.heap.size w (((wr.setCell ⟨w.heap.size, 0, none⟩ a).setCell ⟨w.heap.size, 1, none⟩ b).setCell ⟨w.heap.size, 2, none⟩ c) :=
  ((h.setCell (p := ⟨w.heap.size, 0, none⟩) (Nat.le_refl _) a).setCell (p := ⟨w.heap.size, 1, none⟩) (Nat.le_refl _) b).setCell (p := ⟨w.heap.size, 2, none⟩) (Nat.le_refl _) c

/- What lies there while a sector is read: the In, the sector's box, the place of the result. -/
structure PS (w wr : World) (I B : Nat) (s : Codec.St) (st mk : Int) (dt : List UInt8) : Prop where
  inn : InAt wr I s
  box : wr.heap[B]? = some (.cells #[.int .i64 st, .int .u8 mk, .string (S dt)] 60 (0, 0))
  res : wr.heap[w.heap.size]? = some (.cells #[.int .i64 0, .int .u8 0, .string ⟨#[]⟩] 60 (0, 0))
  bel : Below w.heap.size w wr
  i0 : w.heap.size < I
  ib : I < B
theorem PS.call {w wr w' : World} {I B : Nat} {s s' : Codec.St} {st mk : Int} {dt : List UInt8} (h : PS w wr I B s st mk dt) (hin : InAt w' I s') (hb : But I wr.heap.size wr w') : PS w w' I B s' st mk dt := by
  have h1 := h.i0
  have h2 := h.ib
  exact ⟨hin, (hb.block B (blt h.box) (by omega)).trans h.box, (hb.block w.heap.size (blt h.res) (by omega)).trans h.res, h.bel.trans (hb.below (by omega) h.bel.size), h.i0, h.ib⟩
theorem PS.in_of {w : World} {I B k : Nat} {s : Codec.St} (h : InAt w I s) (hne : B ≠ I) (v : Value) : InAt (w.setCell ⟨B, k, none⟩ v) I s := by
  have e : (w.setCell ⟨B, k, none⟩ v).heap[I]? = w.heap[I]? := heap_setCell_other w ⟨B, k, none⟩ I v (Ne.symm hne)
  exact ⟨by simpa using h.lt, by rw [World.cell?_of_block (w := w) (a := ⟨I, 0, none⟩) e]; exact h.c0, by rw [World.cell?_of_block (w := w) (a := ⟨I, 1, none⟩) e]; exact h.c1, by rw [World.frozen?_setCell]; exact h.f0, by rw [World.frozen?_setCell]; exact h.f1, h.len⟩
theorem PS.put {w wr : World} {I B : Nat} {s : Codec.St} {st mk : Int} {dt : List UInt8} (h : PS w wr I B s st mk dt) (k : Nat) (v : Value) (st' mk' : Int) (dt' : List UInt8) (e : #[.int .i64 st, .int .u8 mk, .string (S dt)].setIfInBounds k v = #[.int .i64 st', .int .u8 mk', .string (S dt')]) : PS w (wr.setCell ⟨B, k, none⟩ v) I B s st' mk' dt' := by
  have h1 := h.i0
  have h2 := h.ib
  refine ⟨PS.in_of h.inn (by omega) v, ?_, (heap_setCell_other wr ⟨B, k, none⟩ w.heap.size v (by simp; omega)).trans h.res, h.bel.setCell (p := ⟨B, k, none⟩) (by simp; omega) v, h.i0, h.ib⟩
  rw [← e]
  exact heap_setCell_same wr B k _ _ v h.box

theorem takeN_bound (m : Int) (s : Codec.St) : (Codec.takeN m s).1 ≤ (max m 0).toNat := by
  unfold Codec.takeN
  split
  · assumption
  · exact Nat.zero_le _
theorem PS.cells {w wr : World} {I B : Nat} {s : Codec.St} {st mk : Int} {dt : List UInt8} (h : PS w wr I B s st mk dt) :
    wr.cell? ⟨B, 0, none⟩ = some (.int .i64 st) ∧ wr.cell? ⟨B, 1, none⟩ = some (.int .u8 mk) ∧ wr.cell? ⟨B, 2, none⟩ = some (.string (S dt)) ∧ wr.frozen? ⟨B, 0, none⟩ = false ∧ wr.frozen? ⟨B, 1, none⟩ = false ∧ wr.frozen? ⟨B, 2, none⟩ = false ∧
    wr.cell? ⟨w.heap.size, 0, none⟩ = some (.int .i64 0) ∧ wr.cell? ⟨w.heap.size, 1, none⟩ = some (.int .u8 0) ∧ wr.cell? ⟨w.heap.size, 2, none⟩ = some (.string ⟨#[]⟩) ∧ wr.frozen? ⟨w.heap.size, 0, none⟩ = false ∧ wr.frozen? ⟨w.heap.size, 1, none⟩ = false ∧ wr.frozen? ⟨w.heap.size, 2, none⟩ = false :=
  ⟨by rw [bcell h.box]; rfl, by rw [bcell h.box]; rfl, by rw [bcell h.box]; rfl, bfroz h.box 0, bfroz h.box 1, bfroz h.box 2, by rw [bcell h.res]; rfl, by rw [bcell h.res]; rfl, by rw [bcell h.res]; rfl, bfroz h.res 0, bfroz h.res 1, bfroz h.res 2⟩
theorem sum_drew (l : List UInt8) (w : World) (hl : l.length ≤ 1099511627776) :
    Calls Tryd.prog 50 #[.slice (some ⟨w.heap.size, 0, none⟩) 1 1] (w.alloc (.cells #[.string (S l)] 9)).drew fun e w' => e = .returned (.int .u32 (Crc.crc l : Nat)) ∧ Below w.heap.size w w' := by
  have h := sum_any l w.drew hl
  have e1 : w.drew.alloc (.cells #[.string (S l)] 9) = (w.alloc (.cells #[.string (S l)] 9)).drew := rfl
  have e2 : w.drew.heap.size = w.heap.size := rfl
  rw [e1, e2] at h
  exact h.mono fun e w' ⟨h1, h2⟩ => ⟨h1, h2.os, h2.tape, h2.output, h2.size, h2.block⟩

theorem drop_zero : ∀ m : List UInt8, (∀ x ∈ m.dropWhile (· == 0), x = 0) → ∀ x ∈ m, x = 0
  | [], _, x, hx => absurd hx List.not_mem_nil
  | a :: m, h, x, hx => by
    by_cases ha : a = 0
    · subst ha
      rw [List.dropWhile_cons_of_pos (by simp)] at h
      rcases List.mem_cons.1 hx with hx | hx
      · exact hx
      · exact drop_zero m h x hx
    · rw [List.dropWhile_cons_of_neg (by simpa using ha)] at h
      exact absurd (h a List.mem_cons_self) ha
theorem drop_nil : ∀ m : List UInt8, m.dropWhile (· == 0) = [] ↔ ∀ x ∈ m, x = 0
  | [] => by simp
  | a :: m => by
    by_cases ha : a = 0
    · subst ha
      rw [List.dropWhile_cons_of_pos (by simp), drop_nil m]
      simp
    · rw [List.dropWhile_cons_of_neg (by simpa using ha)]
      simp [ha]
theorem trim_zero (l : List UInt8) : Lib.trimB l 0 = [] ↔ l.any (fun c => c != 0) = false := by
  unfold Lib.trimB Lib.trimLeftB Lib.trimRightB
  rw [drop_nil, List.any_eq_false]
  constructor
  · intro h c hc
    have := drop_zero l.reverse (fun x hx => h x (List.mem_reverse.2 hx)) c (List.mem_reverse.2 hc)
    simp [this]
  · intro h c hc
    have hm := List.mem_reverse.1 hc
    have := h c (List.mem_reverse.1 ((List.dropWhile_suffix _).subset hm))
    simpa using this

set_option maxHeartbeats 800000 in
theorem sparse_any (l : List UInt8) (w : World) (hl : l.length ≤ 1000) :
    Calls Tryd.prog 38 #[.string (S l)] w fun e w' => e = .returned (.tuple #[SV (Codec.parse l).1, .int .i64 (Codec.parse l).2]) ∧ Below w.heap.size w w' := by
  have hsz : (S l).size = l.length := rfl
  by_cases h64 : l.length = 64
  · have ht4 : (S l).extract 0 4 = S (l.take 4) := S_take l 4
    have hd4 : (S l).extract 4 (S l).size = S (l.drop 4) := S_drop l 4
    rw [hsz, h64] at hd4
    rw [h64] at hsz
    have hdl : (l.drop 4).length = 60 := by rw [List.length_drop]; omega
    have hof := sum_drew (l.drop 4) (w.alloc (.cells #[.int .i64 0, .int .u8 0, .string ⟨#[]⟩] 60)) (by omega)
    have hb0 : Below w.heap.size w (w.alloc (.cells #[.int .i64 0, .int .u8 0, .string ⟨#[]⟩] 60)) := (Below.refl _ w).alloc (Nat.le_refl _) _
    have hr0 := heap_alloc_new w (.cells #[.int .i64 0, .int .u8 0, .string ⟨#[]⟩] 60)
    rw [World.size_alloc] at hof
    have HOF := hide (hof.mono (R' := fun e w' => e = .returned (.int .u32 (Crc.crc (l.drop 4) : Nat)) ∧ Below w.heap.size w w' ∧ w'.heap[w.heap.size]? = some (.cells #[.int .i64 0, .int .u8 0, .string ⟨#[]⟩] 60 (0, 0))) (fun e w' h => ⟨h.1, hb0.trans (h.2.mono (by omega)), (h.2.block w.heap.size (by omega)).trans hr0⟩))
    clear hof hb0 hr0
    have HFO := hide (fun wy => four_any (l.drop 4) wy)
    have HP : Hid (Codec.parse l = if l.take 4 ≠ Codec.sumOf (l.drop 4) then (⟨0, 0, []⟩, 5) else Codec.behind (l.drop 4)) := by
      unfold Codec.parse; rw [if_neg (by omega)]; exact rfl
    have heq : ((64 : Int) == 64) = true := rfl
    generalize Codec.parse l = P at *
    generalize l.take 4 = q0 at *
    generalize l.drop 4 = q at *
    have hqs : (S q).size = 60 := hdl
    clear h64 hl
    by_cases hs : q0 = Codec.sumOf q
    · rw [if_neg (by simpa using hs)] at HP
      rw [unhide HP]
      rw [← hs] at HFO
      have hse : ((S q0).toList == (S q0).toList) = true := by simp
      have HRD := hide (fun wy => read_any q wy (by omega))
      have HN1 := hide (fun I wy (h : InAt wy I (q, 0)) => n_any I 1099511627776 (q, 0) wy h (by omega) (by omega))
      have HN2 := hide (fun I wy (h : InAt wy I (Codec.readNum q).2) => n_any I 255 (Codec.readNum q).2 wy h (by omega) (by omega))
      have HN3 := hide (fun I wy (h : InAt wy I (Codec.readMark q).2) => s_any I 44 (Codec.readMark q).2 wy h (by omega) (by omega))
      rw [show Codec.takeN 1099511627776 (q, 0) = Codec.readNum q from rfl] at HN1
      rw [show Codec.takeN 255 (Codec.readNum q).2 = Codec.readMark q from rfl] at HN2
      rw [show Codec.takeS 44 (Codec.readMark q).2 = Codec.readData q from rfl] at HN3
      have HER := hide (fun I wy (h : InAt wy I (Codec.readData q).2) => err_any I (Codec.readData q).2 wy h)
      have HLE := hide (fun I wy (h : InAt wy I (Codec.readData q).2) => len_any I (Codec.readData q).2 wy h)
      have HBH : Hid (Codec.behind q = if (Codec.readData q).2.2 ≠ 0 then (⟨0, 0, []⟩, (Codec.readData q).2.2) else if (Codec.readNum q).1 = 0 ∨ (Codec.readData q).2.1.any (fun c => c != 0) = true then (⟨0, 0, []⟩, 2) else (⟨(Codec.readNum q).1, (Codec.readMark q).1, (Codec.readData q).1⟩, 0)) := rfl
      have HBB := hide (Codec.behind_body q)
      have hn2 : (Codec.readMark q).1 ≤ 255 := by have := takeN_bound 255 (Codec.readNum q).2; unfold Codec.readMark; omega
      generalize Codec.behind q = BH at *
      generalize Codec.readData q = o3 at *
      generalize Codec.readMark q = o2 at *
      generalize Codec.readNum q = o1 at *
      obtain ⟨n1, s1⟩ := o1
      obtain ⟨n2, s2⟩ := o2
      obtain ⟨t3, r3, e3⟩ := o3
      dsimp only at HN1 HN2 HN3 HER HLE HBH HBB hn2
      have hw8 : IntKind.u8.wrap (n2 : Int) = (n2 : Int) := by rw [IntKind.wrap_u8']; omega
      generalize Crc.crc q = qn at *
      clear hs HP
      go_enter Tryd.func38, Tryd.ntmps38
      go_wp2_with fail
      go_region
      go_wp2_with fail
      refine (unhide HOF).mono ?_
      rintro e w2 ⟨rfl, hb2, hr2⟩
      have HR2 := hide hr2
      have HB2 := hide hb2
      clear hb2 hr2 HOF
      go_wp2_with fail
      refine (unhide HFO _).mono ?_
      rintro e w3 ⟨rfl, hb3⟩
      have hres : w3.heap[w.heap.size]? = _ := (hb3.block w.heap.size (blt (unhide HR2))).trans (unhide HR2)
      have HB := hide ((unhide HB2).trans (hb3.mono (unhide HB2).size))
      have HRES := hide hres
      clear hb3 hres
      go_wp2_with fail
      refine (unhide HRD w3).mono ?_
      rintro e w4 ⟨rfl, hin4, hb4, hs4⟩
      have hPS0 : PS w (w4.alloc (.cells #[.int .i64 0, .int .u8 0, .string ⟨#[]⟩] 60)) w3.heap.size (w3.heap.size + 1) (q, 0) 0 0 [] := by
        have hlt := blt (unhide HRES)
        have hbA : Below w4.heap.size w4 (w4.alloc (.cells #[.int .i64 0, .int .u8 0, .string ⟨#[]⟩] 60)) := (Below.refl _ _).alloc (Nat.le_refl _) _
        refine ⟨hin4.later hbA, by rw [← hs4]; exact heap_alloc_new w4 _, (hbA.block w.heap.size (by omega)).trans ((hb4.block w.heap.size hlt).trans (unhide HRES)), ((unhide HB).trans (hb4.mono (unhide HB).size)).alloc (by have := (unhide HB).size; omega) _, hlt, by omega⟩
      have HPS0 := hide hPS0
      have hs4' : w4.heap.size = w3.heap.size + 1 := hs4
      clear hin4 hb4 hs4 hPS0 HRD HRES HB HR2 HB2
      obtain ⟨I, hI⟩ : ∃ I, w3.heap.size = I := ⟨_, rfl⟩
      rw [hI] at HPS0 hs4'
      go_wp2_with fail
      clear hI
      refine (unhide HN1 _ _ (unhide HPS0).inn).mono ?_
      rintro e w5 ⟨rfl, hin5, hbut5⟩
      have HPS1 := hide ((unhide HPS0).call hin5 hbut5)
      obtain ⟨x0, x1, x2, y0, y1, y2, _⟩ := (unhide HPS1).cells
      clear hin5 hbut5 HPS0 HN1
      go_wp2_with fail
      have HPS2 := hide ((unhide HPS1).put 0 (.int .i64 (n1 : Int)) (n1 : Int) 0 [] rfl)
      clear x0 x1 x2 y0 y1 y2 HPS1
      refine (unhide HN2 _ _ (unhide HPS2).inn).mono ?_
      rintro e w6 ⟨rfl, hin6, hbut6⟩
      have HPS3 := hide ((unhide HPS2).call hin6 hbut6)
      obtain ⟨x0, x1, x2, y0, y1, y2, _⟩ := (unhide HPS3).cells
      clear hin6 hbut6 HPS2 HN2
      go_wp2_with fail
      have HPS4 := hide ((unhide HPS3).put 1 (.int .u8 (n2 : Int)) (n1 : Int) (n2 : Int) [] rfl)
      clear x0 x1 x2 y0 y1 y2 HPS3
      refine (unhide HN3 _ _ (unhide HPS4).inn).mono ?_
      rintro e w7 ⟨rfl, hin7, hbut7⟩
      have HPS5 := hide ((unhide HPS4).call hin7 hbut7)
      obtain ⟨x0, x1, x2, y0, y1, y2, _⟩ := (unhide HPS5).cells
      clear hin7 hbut7 HPS4 HN3
      go_wp2_with fail
      have HPS6 := hide ((unhide HPS5).put 2 (.string (S t3)) (n1 : Int) (n2 : Int) t3 rfl)
      clear x0 x1 x2 y0 y1 y2 HPS5
      refine (unhide HER _ _ (unhide HPS6).inn).mono ?_
      rintro e w8 ⟨rfl, rfl⟩
      obtain ⟨wr, hwr⟩ : ∃ wr, w7.setCell ⟨I + 1, 2, none⟩ (.string (S t3)) = wr := ⟨_, rfl⟩
      rw [hwr] at HPS6 ⊢
      clear hwr
      obtain ⟨x0, x1, x2, y0, y1, y2, r0, r1, r2, f0, f1, f2⟩ := (unhide HPS6).cells
      by_cases he : e3 = 0
      · subst he
        rw [if_neg (by simp)] at HBH
        have he0 : ((0 : Int) == 0) = true := rfl
        obtain ⟨lo, hlo, hex⟩ : ∃ lo : Nat, (60 : Int) - (r3.length : Int) = (lo : Int) ∧ (S q).extract lo (S q).size = S r3 := by
          have h1 := (unhide HBB rfl).1
          refine ⟨(Codec.body ⟨n1, n2, t3⟩).length, ?_, ?_⟩
          · have := congrArg List.length h1
            rw [List.length_append] at this
            omega
          · rw [S_drop]
            congr 1
            conv => lhs; rw [h1]
            exact List.drop_left' rfl
        rw [hqs] at hex
        have hw6 : IntKind.i64.wrap ((60 : Int) - (r3.length : Int)) = (lo : Int) := by rw [IntKind.wrap_i64, ← hlo]; omega
        have hlo60 : lo ≤ 60 := by omega
        have hlo1 : (0 : Int) ≤ (lo : Int) := by omega
        have hlo2 : (lo : Int) ≤ 60 := by omega
        have HTR := hide (fun wy => Tryd.strings_Trim_one (S r3) 0 (by decide) wy (by show r3.length ≤ _; omega))
        rw [S_toList] at HTR
        have HAN : Hid (Lib.trimB r3 0 = [] ↔ r3.any (fun c => c != 0) = false) := trim_zero r3
        generalize Lib.trimB r3 0 = tz at *
        generalize r3.any (fun c => c != 0) = an at *
        generalize (r3.length : Int) = rl at *
        go_wp2_with fail
        refine (unhide HLE _ _ (unhide HPS6).inn).mono ?_
        rintro e w9 ⟨rfl, rfl⟩
        have HLO := hide hlo
        clear hlo
        by_cases hn0 : n1 = 0
        · subst hn0
          rw [if_pos (Or.inl rfl)] at HBH
          go_wp2_with fail
          have h9 := set3 (unhide HPS6).res (.int .i64 0) (.int .u8 0) (.string ⟨#[]⟩)
          have c0 := bcell h9 0
          have c1 := bcell h9 1
          have c2 := bcell h9 2
          simp only [List.getElem?_toArray, List.getElem?_cons_zero, List.getElem?_cons_succ] at c0 c1 c2
          rw [unhide HBH]
          exact bodyPost_ret (v := .tuple #[SV ⟨0, 0, []⟩, .int .i64 2]) (by simp [results, Tryd.results38, go_sem, c0, c1, c2, SV, S]) rfl ⟨rfl, below3 (unhide HPS6).bel _ _ _⟩
        · have hn0' : ((n1 : Int) == 0) = false := by simp; omega
          go_wp2_with fail
          refine (unhide HTR w9).mono ?_
          rintro e wA ⟨rfl, hwA⟩
          have HPSA : Hid (PS w wA I (I + 1) (r3, 0) (n1 : Int) (n2 : Int) t3) := by
            rcases hwA with rfl | rfl
            · exact unhide HPS6
            · have h6 := unhide HPS6
              exact ⟨⟨h6.inn.lt, h6.inn.c0, h6.inn.c1, h6.inn.f0, h6.inn.f1, h6.inn.len⟩, h6.box, h6.res, h6.bel.drew, h6.i0, h6.ib⟩
          clear x0 x1 x2 y0 y1 y2 r0 r1 r2 f0 f1 f2 HPS6 hwA
          obtain ⟨x0, x1, x2, y0, y1, y2, r0, r1, r2, f0, f1, f2⟩ := (unhide HPSA).cells
          by_cases htz : tz = []
          · have han : an = false := (unhide HAN).1 htz
            subst han
            rw [if_neg (by simpa using hn0)] at HBH
            have hem : tz.isEmpty = true := by rw [htz]; rfl
            clear htz
            go_wp2_with fail
            have h9 := set3 (unhide HPSA).res (.int .i64 (n1 : Int)) (.int .u8 (n2 : Int)) (.string (S t3))
            have c0 := bcell h9 0
            have c1 := bcell h9 1
            have c2 := bcell h9 2
            simp only [List.getElem?_toArray, List.getElem?_cons_zero, List.getElem?_cons_succ] at c0 c1 c2
            rw [unhide HBH]
            exact bodyPost_ret (v := .tuple #[SV ⟨n1, n2, t3⟩, .int .i64 0]) (by simp [results, Tryd.results38, go_sem, c0, c1, c2, SV]) rfl ⟨rfl, below3 (unhide HPSA).bel _ _ _⟩
          · have han : an = true := by
              cases an with
              | true => rfl
              | false => exact absurd ((unhide HAN).2 rfl) htz
            subst han
            rw [if_pos (Or.inr rfl)] at HBH
            have hem : tz.isEmpty = false := by simpa using htz
            clear htz
            go_wp2_with fail
            have h9 := set3 (unhide HPSA).res (.int .i64 0) (.int .u8 0) (.string ⟨#[]⟩)
            have c0 := bcell h9 0
            have c1 := bcell h9 1
            have c2 := bcell h9 2
            simp only [List.getElem?_toArray, List.getElem?_cons_zero, List.getElem?_cons_succ] at c0 c1 c2
            rw [unhide HBH]
            exact bodyPost_ret (v := .tuple #[SV ⟨0, 0, []⟩, .int .i64 2]) (by simp [results, Tryd.results38, go_sem, c0, c1, c2, SV, S]) rfl ⟨rfl, below3 (unhide HPSA).bel _ _ _⟩
      · rw [if_pos he] at HBH
        have he0 : (e3 == 0) = false := by simpa using he
        go_wp2_with fail
        refine (unhide HER _ _ (unhide HPS6).inn).mono ?_
        rintro e w9 ⟨rfl, rfl⟩
        go_wp2_with fail
        have h9 := set3 (unhide HPS6).res (.int .i64 0) (.int .u8 0) (.string ⟨#[]⟩)
        have c0 := bcell h9 0
        have c1 := bcell h9 1
        have c2 := bcell h9 2
        simp only [List.getElem?_toArray, List.getElem?_cons_zero, List.getElem?_cons_succ] at c0 c1 c2
        rw [unhide HBH]
        exact bodyPost_ret (v := .tuple #[SV ⟨0, 0, []⟩, .int .i64 e3]) (by simp [results, Tryd.results38, go_sem, c0, c1, c2, SV, S]) rfl ⟨rfl, below3 (unhide HPS6).bel _ _ _⟩
    · rw [unhide HP, if_pos hs]
      have hsn : ((S q0).toList == (S (Codec.sumOf q)).toList) = false := by rw [S_list, S_list]; simpa using hs
      generalize Codec.sumOf q = q4 at *
      generalize Crc.crc q = qn at *
      clear hs HP
      go_enter Tryd.func38, Tryd.ntmps38
      go_wp2_with fail
      go_region
      all_goals
        go_wp2_with fail
        refine (unhide HOF).mono ?_
        rintro e w2 ⟨rfl, hb2, hr2⟩
        have HR2 := hide hr2
        have HB2 := hide hb2
        clear hb2 hr2 HOF
        go_wp2_with fail
        refine (unhide HFO _).mono ?_
        rintro e w3 ⟨rfl, hb3⟩
        have hres : w3.heap[w.heap.size]? = _ := (hb3.block w.heap.size (blt (unhide HR2))).trans (unhide HR2)
        have HB := hide ((unhide HB2).trans (hb3.mono (unhide HB2).size))
        have HRES := hide hres
        have r0 := bcell hres 0
        have r1 := bcell hres 1
        have r2 := bcell hres 2
        have f0 := bfroz hres 0
        have f1 := bfroz hres 1
        have f2 := bfroz hres 2
        simp only [List.getElem?_toArray, List.getElem?_cons_zero, List.getElem?_cons_succ] at r0 r1 r2
        clear hb3 hres
        go_wp2_with fail
        have h9 := set3 (unhide HRES) (.int .i64 0) (.int .u8 0) (.string ⟨#[]⟩)
        have c0 := bcell h9 0
        have c1 := bcell h9 1
        have c2 := bcell h9 2
        simp only [List.getElem?_toArray, List.getElem?_cons_zero, List.getElem?_cons_succ] at c0 c1 c2
        exact bodyPost_ret (v := .tuple #[SV ⟨0, 0, []⟩, .int .i64 5]) (by simp [results, Tryd.results38, go_sem, c0, c1, c2, SV, S]) rfl ⟨rfl, below3 (unhide HB) _ _ _⟩
  · have e : Codec.parse l = (⟨0, 0, []⟩, 1) := by unfold Codec.parse; rw [if_pos h64]
    rw [e]
    have hne : ((l.length : Int) == 64) = false := by simp; omega
    go_enter Tryd.func38, Tryd.ntmps38
    go_wp2_with fail
    exact bodyPost_ret (v := .tuple #[SV ⟨0, 0, []⟩, .int .i64 1]) (by simp [results, Tryd.results38, go_sem, SV, S]) rfl ⟨rfl, (Below.refl _ _).alloc (Nat.le_refl _) _⟩
end Go.Proofs.YtajcaglbbdbibaaDoor
