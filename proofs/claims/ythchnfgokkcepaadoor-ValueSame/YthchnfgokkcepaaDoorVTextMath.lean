/- Two states that may be have the same bytes just if they are the same; what a state's bytes are read as. -/
import Derived.Test.YthchnfgokkcepaaDoorVText
import Derived.Test.YthchnfgokkcepaaDoorVTidy
import Derived.Test.YthchnfgokkcepaaDoorVLike
namespace Go.Proofs.YthchnfgokkcepaaDoor
open Go.RowKit
set_option linter.unusedVariables false
set_option maxRecDepth 100000

theorem rows_inj : ∀ (l m : List (List UInt8 × List UInt8)), l.length = m.length → (∀ i (h : i < l.length), (l[i]'h).1.length ≤ 40 ∧ (l[i]'h).2.length ≤ 40) → (∀ i (h : i < m.length), (m[i]'h).1.length ≤ 40 ∧ (m[i]'h).2.length ≤ 40) → l.flatMap rowT = m.flatMap rowT → l = m
  | [], [], _, _, _, _ => rfl
  | x :: l, y :: m, hl, h1, h2, he => by
    have a1 := h1 0 (by simp)
    have a2 := h2 0 (by simp)
    simp only [List.getElem_cons_zero] at a1 a2
    simp only [List.flatMap_cons, rowT, List.append_assoc] at he
    have e1 := Codec.takeS_enc x.1 (Codec.encS x.2 ++ l.flatMap rowT) a1.1
    have e2 := Codec.takeS_enc y.1 (Codec.encS y.2 ++ m.flatMap rowT) a2.1
    have hf : ∀ r : List (List UInt8 × List UInt8), r.flatMap rowT = r.flatMap fun r => Codec.encS r.1 ++ Codec.encS r.2 := fun r => rfl
    rw [hf, hf] at *
    rw [he, e2] at e1
    have e3 := congrArg Prod.fst e1
    have e4 := congrArg (fun p => p.2.1) e1
    dsimp only at e3 e4
    have e5 := Codec.takeS_enc x.2 (l.flatMap fun r => Codec.encS r.1 ++ Codec.encS r.2) a1.2
    have e6 := Codec.takeS_enc y.2 (m.flatMap fun r => Codec.encS r.1 ++ Codec.encS r.2) a2.2
    rw [← e4, e6] at e5
    have e7 := congrArg Prod.fst e5
    have e8 := congrArg (fun p => p.2.1) e5
    dsimp only at e7 e8
    have ih := rows_inj l m (by simpa using hl) (fun i hi => h1 (i + 1) (by simpa using hi)) (fun i hi => h2 (i + 1) (by simpa using hi)) e8.symm
    rw [ih, show x = y from Prod.ext e3.symm e7.symm]
theorem text_inj {s t : VS} (hs : s.may) (ht : t.may) (h : s.text = t.text) : s.kind = t.kind ∧ s.n = t.n ∧ s.rows = t.rows := by
  obtain ⟨k1, k2⟩ := VS.may_kind hs
  obtain ⟨m1, m2⟩ := VS.may_kind ht
  have l1 := Nat.le_trans (VS.may_rows hs).1 (VS.most_le s)
  have l2 := Nat.le_trans (VS.may_rows ht).1 (VS.most_le t)
  unfold VS.text headT at h
  simp only [List.append_assoc] at h
  have e1 := Codec.takeU_enc (max s.kind 0).toNat (Codec.enc (Codec.fold s.n) ++ (Codec.enc s.rows.length ++ s.rows.flatMap rowT)) (by omega)
  have e2 := Codec.takeU_enc (max t.kind 0).toNat (Codec.enc (Codec.fold t.n) ++ (Codec.enc t.rows.length ++ t.rows.flatMap rowT)) (by omega)
  rw [h, e2] at e1
  have e3 := congrArg Prod.fst e1
  have e4 := congrArg (fun p => p.2.1) e1
  dsimp only at e3 e4
  have f1 := Codec.takeI_enc s.n (Codec.enc s.rows.length ++ s.rows.flatMap rowT) hs.2.1 hs.2.2
  have f2 := Codec.takeI_enc t.n (Codec.enc t.rows.length ++ t.rows.flatMap rowT) ht.2.1 ht.2.2
  rw [← e4, f2] at f1
  have f3 := congrArg Prod.fst f1
  have f4 := congrArg (fun p => p.2.1) f1
  dsimp only at f3 f4
  have g1 := Codec.takeU_enc s.rows.length (s.rows.flatMap rowT) (by omega)
  have g2 := Codec.takeU_enc t.rows.length (t.rows.flatMap rowT) (by omega)
  rw [← f4, g2] at g1
  have g3 := congrArg Prod.fst g1
  have g4 := congrArg (fun p => p.2.1) g1
  dsimp only at g3 g4
  refine ⟨by omega, f3.symm, rows_inj _ _ g3.symm (fun i hi => ?_) (fun i hi => ?_) g4.symm⟩
  · have := VS.may_len hs i hi; omega
  · have := VS.may_len ht i hi; omega
theorem text_alike {s t : VS} (hs : s.may) (ht : t.may) : decide (s.text = t.text) = s.alike t := by
  unfold VS.alike
  rw [Bool.eq_iff_iff, decide_eq_true_eq, decide_eq_true_eq]
  constructor
  · exact text_inj hs ht
  · rintro ⟨h1, h2, h3⟩
    obtain ⟨k, n, r⟩ := s
    obtain ⟨k', n', r'⟩ := t
    dsimp only at h1 h2 h3
    rw [h1, h2, h3]
end Go.Proofs.YthchnfgokkcepaaDoor
